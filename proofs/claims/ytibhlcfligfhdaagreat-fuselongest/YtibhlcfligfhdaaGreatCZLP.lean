import Derived.Test.YtibhlcfligfhdaaGreatCZEf
import Derived.Test.YtibhlcfligfhdaaGreatCIOpC
namespace Go.Proofs.YtibhlcfligfhdaaGreat
open Go.ChangeShapes Go.WideShapes Go.ChangeAt Go.RowKit
set_option maxRecDepth 100000 in
theorem fuseLongest_lifted (os:Os) (started:os.Started) (H:Type) (enc:TypeId × Value→H) :
   ReturnsInHanded {} Tryz.checked os 4 .any (Rows.fuseLongestSpec.pre6 enc Tryz.prog Tryz.f4 Rows.fuseLongestRow.domain false) (Rows.fuseLongestSpec.post enc Tryz.prog Tryz.f4 false true false false):=by
 refine returnsInHanded_of_change_sized (C:=Tryz.checked) Tryz.own started (by kernel_rfl) Tryz.func4
   (ChangeSpec.witness6 (enc:=enc) (C:=Tryz.checked) false ⟨#[],#[.slice none 0 0,.slice none 0 0,.int .u32 0,.int .u32 0],[]⟩ 8 (by kernel_rfl) (by kernel_rfl) (by kernel_rfl) (by kernel_rfl)) ?_
 intro W base args ds gs before hval0 hW _ hsz0 _
 have hsz:(DataW.weightsEach Tryz.prog (Tryz.f4.params.toList ++ Rows.fuseLongestSpec.plain.varTypes Tryz.prog) (ds ++ gs)).all (· ≤ reachBytes)=true:=hsz0
 clear hsz0
 have hval:∀ (j:Nat) t v,Tryz.f4.params[j]?=some t→args[j]?=some v→Value.okWide Tryz.prog W .any base t v:=hval0
 have hW':=hW
 obtain ⟨p,q,hA0,hV,rfl,hfz,hnd⟩:=hW
 have hA:DataW.TrodAll enc Tryz.prog W 0 (fun _=>true) true Tryz.f4.params.toList args.toList ds p:=hA0
 rw [Tryz.params4] at hA hval hsz
 obtain ⟨v0,vs0,d0,ds0,p0,q0,hargs,rfl,rfl,h0,r0⟩:=trodAll_cons hA
 obtain ⟨v1,vs1,d1,ds1,p1,q1,rfl,rfl,rfl,h1,r1⟩:=trodAll_cons r0
 obtain ⟨v2,vs2,d2,ds2,p2,q2,rfl,rfl,rfl,h2,r2⟩:=trodAll_cons r1
 obtain ⟨v3,vs3,d3,ds3,p3,q3,rfl,rfl,rfl,h3,r3⟩:=trodAll_cons r2
 obtain ⟨rfl,rfl,rfl⟩:=trodAll_nil r3
 obtain rfl:args=#[v0,v1,v2,v3]:=by cases args;simp_all
 obtain ⟨rfl,rfl⟩:=trodVars_none hV
 obtain ⟨a0,len0,cap0,rfl⟩:=okWide_slice Tryz.underlying22 (hval 0 22 v0 rfl rfl)
 obtain ⟨a1,len1,cap1,rfl⟩:=okWide_slice Tryz.underlying22 (hval 1 22 v1 rfl rfl)
 obtain ⟨a2,rfl,rfl,rfl,w2⟩:=open_int Tryz.underlying23 (hval 2 23 v2 rfl rfl) h2
 obtain ⟨a3,rfl,rfl,rfl,w3⟩:=open_int Tryz.underlying23 (hval 3 23 v3 rfl rfl) h3
 clear hA0 hval0
 simp only [List.append_nil] at hW' hsz
 have hlt0:∀ x∈p0,x.block<W.heap.size:=fun x hx=>by simpa using hW'.lt x (by simp [hx])
 have hlt1:∀ x∈p1,x.block<W.heap.size:=fun x hx=>by simpa using hW'.lt x (by simp [hx])
 obtain ⟨zs0,rfl,hwf0,hr0,hd0⟩:=code_open h0 hlt0
 obtain ⟨zs1,rfl,hwf1,hr1,hd1⟩:=code_open h1 hlt1
 have hs0:zs0.length*8≤140737488351232:=by
   rcases hd0 with ⟨_,rfl⟩|⟨l,sp,rfl,hl,_⟩
   · simp
   · have:=sized_slice hsz (j:=0) (t:=22) rfl rfl Tryz.underlying22
     rw [Tryz.bytesI] at this
     simp only [reachBytes] at this
     omega
 have hs1:zs1.length*8≤140737488351232:=by
   rcases hd1 with ⟨_,rfl⟩|⟨l,sp,rfl,hl,_⟩
   · simp
   · have:=sized_slice hsz (j:=1) (t:=22) rfl rfl Tryz.underlying22
     rw [Tryz.bytesI] at this
     simp only [reachBytes] at this
     omega
 obtain ⟨n3,rfl⟩:∃ n:Nat,a3=(n:Int):=⟨a3.toNat,by have:=word_wf w3;omega⟩
 obtain ⟨n2,rfl⟩:∃ n:Nat,a2=(n:Int):=⟨a2.toNat,by have:=word_wf w2;omega⟩
 have hn3:n3<4294967296:=by have:=word_wf w3;omega
 have hn2:n2<4294967296:=by have:=word_wf w2;omega
 refine (flong_law a0 a1 cap0 cap1 n2 n3 zs0 zs1 W (by omega) (by omega) hn2 hn3 hwf0 hwf1 hr0 hr1).mono fun e W' ⟨he,hnx⟩=>?_
 subst he
 have hback0:DataW.Trod enc Tryz.prog W' 0 (fun b=>decide (b<W.heap.size)) true 22 (.slice a0 zs0.length cap0) d0 p0:=
   Below.trod Tryz.laidOut (by kernel_rfl) (of_decide_eq_true (by kernel_rfl)) h0 hnx hlt0
 have hback1:DataW.Trod enc Tryz.prog W' 0 (fun b=>decide (b<W.heap.size)) true 22 (.slice a1 zs1.length cap1) d1 p1:=
   Below.trod Tryz.laidOut (by kernel_rfl) (of_decide_eq_true (by kernel_rfl)) h1 hnx hlt1
 refine ⟨_,rfl,_,_,_,[],p0 ++ (p1 ++ ([] ++ ([] ++ ([])))),[],hW',?_,?_,rfl,hnx.frame _,fun h=>by cases h⟩
 · exact trodAll_cons_mk (shut_bool Tryz.underlying4 _) trodAll_mk0
 · exact trodAll_cons_mk hback0 (trodAll_cons_mk hback1 (trodAll_cons_mk (shut_int Tryz.underlying23 w2) (trodAll_cons_mk (shut_int Tryz.underlying23 w3) (trodAll_mk0))))
theorem fuseLongest_holds:Rows.FuseLongestSaid:=
 OpenClaim.holds_of_wide 4 Tryz.f4 rfl rfl rfl rfl rfl rfl rfl ⟨rfl,rfl,rfl,rfl,rfl⟩ rfl rfl rfl rfl rfl (by kernel_rfl) Tryz.func4 (by kernel_rfl)
   (of_decide_eq_true (by kernel_rfl)) (by unfold Func.isWrapper;first|(rw [if_pos (by decide +kernel)];kernel_rfl)|(rw [if_neg (by decide +kernel)];exact ⟨rfl,rfl⟩))
   (fun os started H enc _=>fuseLongest_lifted os started H enc)
end Go.Proofs.YtibhlcfligfhdaaGreat
