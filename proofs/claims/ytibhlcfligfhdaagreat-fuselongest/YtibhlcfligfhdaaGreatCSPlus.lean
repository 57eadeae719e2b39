import Derived.Test.YtibhlcfligfhdaaGreatCABinA
namespace Go.Proofs.YtibhlcfligfhdaaGreat
set_option maxHeartbeats 4000000
open Go.RowKit
set_option maxRecDepth 100000
theorem take_step (zs:List Nat) (k:Nat):nv (zs.take (k+1))=nv (zs.take k)+4294967296 ^ k*zs.getD k 0:=by
 by_cases hlt:k<zs.length
 · have e1:zs.take (k+1)=zs.take k ++ [zs.getD k 0]:=by
     rw [List.take_succ_eq_append_getElem hlt]
     simp [List.getD,List.getElem?_eq_getElem hlt]
   rw [e1,nv_append,show (zs.take k).length=k by simp;omega]
   simp [nv]
 · rw [List.take_of_length_le (by omega),List.take_of_length_le (by omega)]
   simp [List.getD,List.getElem?_eq_none (Nat.le_of_not_lt hlt)]
theorem getD_off {zs:List Nat} {k:Nat} (h:¬ k<zs.length):zs.getD k 0=0:=by
 simp [List.getD,List.getElem?_eq_none (Nat.le_of_not_lt h)]
theorem cut_own {w w1:World} {v':Value} {ZZ:List Nat} {n x:Nat} (R1:w1.ownsRow w.heap.size 23 1 v' n (uk ZZ)) (hn:ZZ.length=n) (hlen:n≤1000000) (hx:nv ZZ=x) (hW:Words ZZ) :
   ∃ ao cap,v'=.slice ao n cap∧Calls Tryz.prog 136 #[.slice ao n cap] w1 fun e w'=>(∃ v,e=.returned v∧NatV w1 v x)∧w'=w1:=by
 subst hn
 obtain ⟨ao',cap',rfl,hrd⟩:=own_readsU R1
 have hcap:=own_cap R1
 refine ⟨ao',cap',rfl,(cut_any ao' cap' ZZ w1 hcap.1 hlen hrd hcap.2).mono ?_⟩
 rintro e wq ⟨⟨nn,hnn,rfl,ht,hN⟩,hq⟩
 have hl3:(ZZ.take nn).length=nn:=by simp;omega
 exact ⟨⟨_,rfl,ao',cap',ZZ.take nn,by rw [hl3],by rw [hl3];omega,hcap.2,by rw [ht];exact hx,hN,words_take hW nn,hrd.take nn hnn⟩,hq⟩
theorem plus_any (ao bo:Option Addr) (ca cb:Nat) (zs ys:List Nat) (w:World) (hl:zs.length≤1000) (hl2:ys.length≤1000) (hr:ReadsU w ao zs w.heap.size) (hr2:ReadsU w bo ys w.heap.size) (hW:Words zs) (hW2:Words ys) :
   Calls Tryz.prog 129 #[.slice ao zs.length ca,.slice bo ys.length cb] w fun e w'=>(∃ v,e=.returned v∧NatV w' v (nv zs+nv ys))∧Below w.heap.size w w':=by
 obtain ⟨i0,hi,hz0,hz1,hz2⟩:=info_parts Tryz.infoU
 go_enter Tryz.func129,Tryz.ntmps129
 go_wp2
 go_loopw [5,6,7] (fun v c i wr=>∃ k cr:Nat,∃ L:List Nat,(k≤zs.length∨k≤ys.length)∧i=.int .i64 k∧c=.int .u64 (cr:Int)∧cr≤1∧L.length=k∧Words L∧nv L+4294967296 ^ k*cr=nv (zs.take k)+nv (ys.take k)∧wr.ownsRow w.heap.size 23 1 v k (uk L)∧Below w.heap.size w wr)
   (fun _ _ i _=>zs.length+ys.length-(intOf i).toNat)
 case atStart=>exact ⟨0,0,[],Or.inl (Nat.zero_le _),rfl,rfl,by decide,rfl,(fun z hz=>by simp at hz),by simp [nv],World.ownsRow_nil _ _ _ _,Below.refl _ _⟩
 case round=>
   obtain ⟨k,cr,L,hk,rfl,rfl,hcr,hLl,hLW,hval,hown,hb⟩:=hrel
   have hB:=hb.size
   have st1:=take_step zs k
   have st2:=take_step ys k
   have zw:=words_get hW k
   have yw:=words_get hW2 k
   have key:∀ z y X lo hh:Nat,zs.getD k 0=z→ys.getD k 0=y→X=cr+z+y→lo=X % 4294967296→hh=X / 4294967296→hh≤1∧lo<4294967296∧Words (L ++ [lo])∧(L ++ [lo]).length=k+1∧nv (L ++ [lo])+4294967296 ^ (k+1)*hh=nv (zs.take (k+1))+nv (ys.take (k+1)):=by
     intro z y X lo hh e1 e2 e3 e4 e5
     rw [e1] at st1 zw
     rw [e2] at st2 yw
     refine ⟨by omega,by omega,?_,by simp [hLl],?_⟩
     · intro u hu
       rcases List.mem_append.1 hu with h|h
       · exact hLW u h
       · simp at h;omega
     · rw [st1,st2,nv_append,hLl,Nat.pow_succ,Nat.mul_assoc,show nv [lo]=lo by simp [nv]]
       have h6:lo+4294967296*hh=cr+z+y:=by omega
       have h7:4294967296 ^ k*(lo+4294967296*hh)=4294967296 ^ k*cr+4294967296 ^ k*z+4294967296 ^ k*y:=by rw [h6,Nat.mul_add,Nat.mul_add]
       rw [Nat.mul_add] at h7
       omega
   by_cases h1:k<zs.length
   · by_cases h2:k<ys.length
     · obtain ⟨z,hz⟩:∃ z,zs.getD k 0=z:=⟨_,rfl⟩
       obtain ⟨y,hy⟩:∃ y,ys.getD k 0=y:=⟨_,rfl⟩
       rw [hz] at zw
       rw [hy] at yw
       obtain ⟨X,hX⟩:∃ X,X=cr+z+y:=⟨_,rfl⟩
       obtain ⟨lo,hlo⟩:∃ lo,lo=X % 4294967296:=⟨_,rfl⟩
       obtain ⟨hh,hhh⟩:∃ hh,hh=X / 4294967296:=⟨_,rfl⟩
       have HK:Hid _:=key z y X lo hh hz hy hX hlo hhh
       obtain ⟨b1,off1,rfl,hbl1,hc1⟩:=(hr.below hb) (by omega)
       have hck1:=hc1 k h1
       rw [hz] at hck1
       have hi1:(k:Int)<(zs.length:Int):=by omega
       clear hc1
       obtain ⟨b2,off2,rfl,hbl2,hc2⟩:=(hr2.below hb) (by omega)
       have hck2:=hc2 k h2
       rw [hy] at hck2
       have hi2:(k:Int)<(ys.length:Int):=by omega
       clear hc2
       have e1:(cr:Int)+(z:Int)+(y:Int)=(X:Int):=by omega
       have e2:(X:Int) % 4294967296=(lo:Int):=by omega
       have e2':IntKind.u32.wrap (X:Int)=(lo:Int):=by rw [IntKind.wrap_u32'];omega
       have e3:(X:Int) / 4294967296=(hh:Int):=by omega
       have hkb:k≤1000:=by omega
       have hXb:X<18446744073709551616:=by omega
       clear key st1 st2 hval hLW hLl hX hlo hhh hz hy
       go_wp2_with (at_builtin;refine wpList_append_own _ rfl _ _ 96 rfl w.heap.size 23 i0 (.int .u32 0) 1 4 Tryz.underlying96 hi hz0 hz1 hz2 rfl (by decide) _ _ _ rfl (hown.alloc _) ⟨_,0,none⟩ 1 1 [.int .u32 (lo:Int)] rfl rfl ?c1 ?c2 ?c3 ?c4 ?c5 ?_)
       case c1=>
         intro j u hj
         match j,hj with
         |0,hj=>simp at hj;subst hj;simp [Addr.add]
       case c2=>first|rfl|(intro u hu;simp at hu;subst hu;rfl)
       case c3=>unfold maxLen;omega
       case c4=>omega
       case c5=>first|omega|(simp;omega)
       intro v' w1 hown' hgrow _
       obtain ⟨k1,k2,k3,k4,k5⟩:=HK.out
       have HKK:Hid (hh≤1∧Words (L ++ [lo])∧(L ++ [lo]).length=k+1∧nv (L ++ [lo])+4294967296 ^ (k+1)*hh=nv (zs.take (k+1))+nv (ys.take (k+1))):=⟨k1,k3,k4,k5⟩
       have R1:w1.ownsRow w.heap.size 23 1 v' (k+1) (uk (L ++ [lo])):=own_snocU hown'
       have R2:=grown_belowU hb hB hown hgrow
       clear hown' hgrow hown k1 k2 k3 k4 k5 HK
       go_wp2
       go_roundw
       case rel=>exact ⟨k+1,hh,L ++ [lo],by omega,by go_num,rfl,HKK.out.1,HKK.out.2.2.1,HKK.out.2.1,HKK.out.2.2.2,R1,R2⟩
       case measure=>simp [intOf];omega
     · obtain ⟨z,hz⟩:∃ z,zs.getD k 0=z:=⟨_,rfl⟩
       obtain ⟨y,hy⟩:∃ y,ys.getD k 0=y:=⟨_,rfl⟩
       rw [hz] at zw
       rw [hy] at yw
       have y0:y=0:=by rw [←hy];exact getD_off h2
       obtain ⟨X,hX⟩:∃ X,X=cr+z+y:=⟨_,rfl⟩
       obtain ⟨lo,hlo⟩:∃ lo,lo=X % 4294967296:=⟨_,rfl⟩
       obtain ⟨hh,hhh⟩:∃ hh,hh=X / 4294967296:=⟨_,rfl⟩
       have HK:Hid _:=key z y X lo hh hz hy hX hlo hhh
       obtain ⟨b1,off1,rfl,hbl1,hc1⟩:=(hr.below hb) (by omega)
       have hck1:=hc1 k h1
       rw [hz] at hck1
       have hi1:(k:Int)<(zs.length:Int):=by omega
       clear hc1
       have hi2:¬ (k:Int)<(ys.length:Int):=by omega
       have hi2b:decide ((k:Int)<(ys.length:Int))=false:=decide_eq_false hi2
       have e1:(cr:Int)+(z:Int)=(X:Int):=by omega
       have e2:(X:Int) % 4294967296=(lo:Int):=by omega
       have e2':IntKind.u32.wrap (X:Int)=(lo:Int):=by rw [IntKind.wrap_u32'];omega
       have e3:(X:Int) / 4294967296=(hh:Int):=by omega
       have hkb:k≤1000:=by omega
       have hXb:X<18446744073709551616:=by omega
       clear key st1 st2 hval hLW hLl hX hlo hhh hz hy
       go_wp2_with (at_builtin;refine wpList_append_own _ rfl _ _ 96 rfl w.heap.size 23 i0 (.int .u32 0) 1 4 Tryz.underlying96 hi hz0 hz1 hz2 rfl (by decide) _ _ _ rfl (hown.alloc _) ⟨_,0,none⟩ 1 1 [.int .u32 (lo:Int)] rfl rfl ?p1 ?p2 ?p3 ?p4 ?p5 ?_)
       case p2=>first|rfl|(intro u hu;simp at hu;subst hu;rfl)
       case p3=>unfold maxLen;omega
       case p4=>omega
       case p5=>first|omega|(simp;omega)
       intro v' w1 hown' hgrow _
       obtain ⟨k1,k2,k3,k4,k5⟩:=HK.out
       have HKK:Hid (hh≤1∧Words (L ++ [lo])∧(L ++ [lo]).length=k+1∧nv (L ++ [lo])+4294967296 ^ (k+1)*hh=nv (zs.take (k+1))+nv (ys.take (k+1))):=⟨k1,k3,k4,k5⟩
       have R1:w1.ownsRow w.heap.size 23 1 v' (k+1) (uk (L ++ [lo])):=own_snocU hown'
       have R2:=grown_belowU hb hB hown hgrow
       clear hown' hgrow hown k1 k2 k3 k4 k5 HK
       go_wp2
       go_roundw
       case rel=>exact ⟨k+1,hh,L ++ [lo],by omega,by go_num,rfl,HKK.out.1,HKK.out.2.2.1,HKK.out.2.1,HKK.out.2.2.2,R1,R2⟩
       case measure=>simp [intOf];omega
   · by_cases h2:k<ys.length
     · obtain ⟨z,hz⟩:∃ z,zs.getD k 0=z:=⟨_,rfl⟩
       obtain ⟨y,hy⟩:∃ y,ys.getD k 0=y:=⟨_,rfl⟩
       rw [hz] at zw
       rw [hy] at yw
       have z0:z=0:=by rw [←hz];exact getD_off h1
       obtain ⟨X,hX⟩:∃ X,X=cr+z+y:=⟨_,rfl⟩
       obtain ⟨lo,hlo⟩:∃ lo,lo=X % 4294967296:=⟨_,rfl⟩
       obtain ⟨hh,hhh⟩:∃ hh,hh=X / 4294967296:=⟨_,rfl⟩
       have HK:Hid _:=key z y X lo hh hz hy hX hlo hhh
       have hi1:¬ (k:Int)<(zs.length:Int):=by omega
       have hi1b:decide ((k:Int)<(zs.length:Int))=false:=decide_eq_false hi1
       obtain ⟨b2,off2,rfl,hbl2,hc2⟩:=(hr2.below hb) (by omega)
       have hck2:=hc2 k h2
       rw [hy] at hck2
       have hi2:(k:Int)<(ys.length:Int):=by omega
       clear hc2
       have e1:(cr:Int)+(y:Int)=(X:Int):=by omega
       have e2:(X:Int) % 4294967296=(lo:Int):=by omega
       have e2':IntKind.u32.wrap (X:Int)=(lo:Int):=by rw [IntKind.wrap_u32'];omega
       have e3:(X:Int) / 4294967296=(hh:Int):=by omega
       have hkb:k≤1000:=by omega
       have hXb:X<18446744073709551616:=by omega
       clear key st1 st2 hval hLW hLl hX hlo hhh hz hy
       go_wp2_with (at_builtin;refine wpList_append_own _ rfl _ _ 96 rfl w.heap.size 23 i0 (.int .u32 0) 1 4 Tryz.underlying96 hi hz0 hz1 hz2 rfl (by decide) _ _ _ rfl (hown.alloc _) ⟨_,0,none⟩ 1 1 [.int .u32 (lo:Int)] rfl rfl ?q1 ?q2 ?q3 ?q4 ?q5 ?_)
       case q2=>first|rfl|(intro u hu;simp at hu;subst hu;rfl)
       case q3=>unfold maxLen;omega
       case q4=>omega
       case q5=>first|omega|(simp;omega)
       intro v' w1 hown' hgrow _
       obtain ⟨k1,k2,k3,k4,k5⟩:=HK.out
       have HKK:Hid (hh≤1∧Words (L ++ [lo])∧(L ++ [lo]).length=k+1∧nv (L ++ [lo])+4294967296 ^ (k+1)*hh=nv (zs.take (k+1))+nv (ys.take (k+1))):=⟨k1,k3,k4,k5⟩
       have R1:w1.ownsRow w.heap.size 23 1 v' (k+1) (uk (L ++ [lo])):=own_snocU hown'
       have R2:=grown_belowU hb hB hown hgrow
       clear hown' hgrow hown k1 k2 k3 k4 k5 HK
       go_wp2
       go_roundw
       case rel=>exact ⟨k+1,hh,L ++ [lo],by omega,by go_num,rfl,HKK.out.1,HKK.out.2.2.1,HKK.out.2.1,HKK.out.2.2.2,R1,R2⟩
       case measure=>simp [intOf];omega
     · have hi1b:decide ((k:Int)<(zs.length:Int))=false:=decide_eq_false (by omega)
       have hi2b:decide ((k:Int)<(ys.length:Int))=false:=decide_eq_false (by omega)
       rw [List.take_of_length_le (by omega),List.take_of_length_le (by omega)] at hval
       have HV:Hid (nv (L ++ [cr])=nv zs+nv ys∧Words (L ++ [cr])∧(L ++ [cr]).length=k+1):=by
         refine ⟨?_,?_,by simp [hLl]⟩
         · rw [nv_append,hLl,show nv [cr]=cr by simp [nv]];exact hval
         · intro u hu
           rcases List.mem_append.1 hu with h|h
           · exact hLW u h
           · simp at h;omega
       have e2':IntKind.u32.wrap (cr:Int)=(cr:Int):=by rw [IntKind.wrap_u32'];omega
       have hkb:k≤1000:=by omega
       clear key st1 st2 hval hLW hLl zw yw
       go_wp2_with (at_builtin;refine wpList_append_own _ rfl _ _ 96 rfl w.heap.size 23 i0 (.int .u32 0) 1 4 Tryz.underlying96 hi hz0 hz1 hz2 rfl (by decide) _ _ _ rfl (hown.alloc _) ⟨_,0,none⟩ 1 1 [.int .u32 (cr:Int)] rfl rfl ?s1 ?s2 ?s3 ?s4 ?s5 ?_)
       case s1=>
         intro j u hj
         match j,hj with
         |0,hj=>simp at hj;subst hj;simp [Addr.add]
       case s2=>first|rfl|(intro u hu;simp at hu;subst hu;rfl)
       case s3=>unfold maxLen;omega
       case s4=>omega
       case s5=>first|omega|(simp;omega)
       intro v' w1 hown' hgrow _
       have R1:w1.ownsRow w.heap.size 23 1 v' (k+1) (uk (L ++ [cr])):=own_snocU hown'
       have R2:=grown_belowU hb hB hown hgrow
       clear hown' hgrow hown
       obtain ⟨ao',cap',rfl,cc⟩:=cut_own R1 HV.out.2.2 (by omega) HV.out.1 HV.out.2.1
       clear R1
       go_wp2_with (go_at_call 136;refine cc.mono ?_;rintro e wq ⟨⟨vv,rfl,hvv⟩,hq⟩;subst wq)
       go_ret
       exact ⟨⟨_,rfl,hvv⟩,R2⟩
theorem less_end {zs ys L:List Nat} {k cr:Nat} (hk:k=zs.length) (hl2:ys.length≤zs.length) (hle:nv ys≤nv zs) (hcr:cr≤1) (hLl:L.length=k) (hLW:Words L) (hval:nv L+nv (ys.take k)=nv (zs.take k)+4294967296 ^ k*cr):nv L=nv zs-nv ys:=by
 have h1:=nv_lt hLW
 rw [hLl] at h1
 rw [List.take_of_length_le (by rw [hk];exact hl2),List.take_of_length_le (Nat.le_of_eq hk.symm)] at hval
 generalize 4294967296 ^ k=P at hval h1
 rcases (show cr=0∨cr=1 by omega) with h|h
 · subst h;omega
 · subst h;omega
theorem less_any (ao bo:Option Addr) (ca cb:Nat) (zs ys:List Nat) (w:World) (hl:zs.length≤1000) (hl2:ys.length≤zs.length) (hle:nv ys≤nv zs) (hr:ReadsU w ao zs w.heap.size) (hr2:ReadsU w bo ys w.heap.size) (hW:Words zs) (hW2:Words ys) :
   Calls Tryz.prog 134 #[.slice ao zs.length ca,.slice bo ys.length cb] w fun e w'=>(∃ v,e=.returned v∧NatV w' v (nv zs-nv ys))∧Below w.heap.size w w':=by
 obtain ⟨i0,hi,hz0,hz1,hz2⟩:=info_parts Tryz.infoU
 go_enter Tryz.func134,Tryz.ntmps134
 go_wp2
 go_loopw [5,6,7] (fun v c i wr=>∃ k cr:Nat,∃ L:List Nat,k≤zs.length∧i=.int .i64 k∧c=.int .u64 (cr:Int)∧cr≤1∧L.length=k∧Words L∧nv L+nv (ys.take k)=nv (zs.take k)+4294967296 ^ k*cr∧wr.ownsRow w.heap.size 23 1 v k (uk L)∧Below w.heap.size w wr)
   (fun _ _ i _=>zs.length-(intOf i).toNat)
 case atStart=>exact ⟨0,0,[],Nat.zero_le _,rfl,rfl,by decide,rfl,(fun z hz=>by simp at hz),by simp [nv],World.ownsRow_nil _ _ _ _,Below.refl _ _⟩
 case round=>
   obtain ⟨k,cr,L,hk,rfl,rfl,hcr,hLl,hLW,hval,hown,hb⟩:=hrel
   have hB:=hb.size
   have st1:=take_step zs k
   have st2:=take_step ys k
   have zw:=words_get hW k
   have yw:=words_get hW2 k
   have key:∀ z y lo hh:Nat,zs.getD k 0=z→ys.getD k 0=y→lo+cr+y=z+4294967296*hh→lo<4294967296→Words (L ++ [lo])∧(L ++ [lo]).length=k+1∧nv (L ++ [lo])+nv (ys.take (k+1))=nv (zs.take (k+1))+4294967296 ^ (k+1)*hh:=by
     intro z y lo hh e1 e2 e3 e4
     rw [e1] at st1 zw
     rw [e2] at st2 yw
     refine ⟨?_,by simp [hLl],?_⟩
     · intro u hu
       rcases List.mem_append.1 hu with h|h
       · exact hLW u h
       · simp at h;omega
     · rw [st1,st2,nv_append,hLl,Nat.pow_succ,Nat.mul_assoc,show nv [lo]=lo by simp [nv]]
       have h7:4294967296 ^ k*(lo+cr+y)=4294967296 ^ k*z+4294967296 ^ k*(4294967296*hh):=by rw [e3,Nat.mul_add]
       rw [Nat.mul_add,Nat.mul_add] at h7
       omega
   by_cases h1:k<zs.length
   · obtain ⟨z,hz⟩:∃ z,zs.getD k 0=z:=⟨_,rfl⟩
     obtain ⟨y,hy⟩:∃ y,ys.getD k 0=y:=⟨_,rfl⟩
     rw [hz] at zw
     rw [hy] at yw
     obtain ⟨Y,hY⟩:∃ Y,Y=cr+y:=⟨_,rfl⟩
     obtain ⟨b1,off1,rfl,hbl1,hc1⟩:=(hr.below hb) (by omega)
     have hck1:=hc1 k h1
     rw [hz] at hck1
     have hi1:(k:Int)<(zs.length:Int):=by omega
     clear hc1
     have hkb:k≤1000:=by omega
     have hYb:Y<18446744073709551616:=by omega
     have hzb:z<18446744073709551616:=by omega
     by_cases h2:k<ys.length
     · by_cases h3:z<Y
       · obtain ⟨b2,off2,rfl,hbl2,hc2⟩:=(hr2.below hb) (by omega)
         have hck2:=hc2 k h2
         rw [hy] at hck2
         have hi2:(k:Int)<(ys.length:Int):=by omega
         clear hc2
         have e1:(cr:Int)+(y:Int)=(Y:Int):=by omega
         obtain ⟨X,hX⟩:∃ X,X=z+4294967296:=⟨_,rfl⟩
         have hXb:X<18446744073709551616:=by omega
         obtain ⟨lo,hlo⟩:∃ lo,lo=X-Y:=⟨_,rfl⟩
         have HK:Hid _:=key z y lo 1 hz hy (by omega) (by omega)
         have hh1:(z:Int)<(Y:Int):=by omega
         have e2:(z:Int)+4294967296=(X:Int):=by omega
         have e3:(X:Int)-(Y:Int)=(lo:Int):=by omega
         have e4:(Y:Int)≤(X:Int):=by omega
         have hlob:lo<4294967296:=by omega
         have e2':IntKind.u32.wrap (lo:Int)=(lo:Int):=by rw [IntKind.wrap_u32'];omega
         clear hX
         clear hY
         clear key st1 st2 hval hLW hLl hlo hz hy hle
         go_wp2_with (at_builtin;refine wpList_append_own _ rfl _ _ 96 rfl w.heap.size 23 i0 (.int .u32 0) 1 4 Tryz.underlying96 hi hz0 hz1 hz2 rfl (by decide) _ _ _ rfl (hown.alloc _) ⟨_,0,none⟩ 1 1 [.int .u32 (lo:Int)] rfl rfl ?c1 ?c2 ?c3 ?c4 ?c5 ?_)
         all_goals first
           | (intro j u hj
              match j,hj with
              |0,hj=>simp at hj;subst hj;simp [Addr.add];done)
           |(show Value.oneCell' _=true;rfl)
           |(intro u hu;simp at hu;subst hu;rfl)
           |(unfold maxLen;omega)
           |omega
           |(simp;omega)
           |skip
         intro v' w1 hown' hgrow _
         have R1:w1.ownsRow w.heap.size 23 1 v' (k+1) (uk (L ++ [lo])):=own_snocU hown'
         have R2:=grown_belowU hb hB hown hgrow
         clear hown' hgrow hown
         go_wp2
         go_roundw
         case rel=>exact ⟨k+1,1,L ++ [lo],by omega,by go_num,rfl,by decide,HK.out.2.1,HK.out.1,HK.out.2.2,R1,R2⟩
         case measure=>simp [intOf];omega
       · obtain ⟨b2,off2,rfl,hbl2,hc2⟩:=(hr2.below hb) (by omega)
         have hck2:=hc2 k h2
         rw [hy] at hck2
         have hi2:(k:Int)<(ys.length:Int):=by omega
         clear hc2
         have e1:(cr:Int)+(y:Int)=(Y:Int):=by omega
         obtain ⟨lo,hlo⟩:∃ lo,lo=z-Y:=⟨_,rfl⟩
         have HK:Hid _:=key z y lo 0 hz hy (by omega) (by omega)
         have hh1:decide ((z:Int)<(Y:Int))=false:=decide_eq_false (by omega)
         have e3:(z:Int)-(Y:Int)=(lo:Int):=by omega
         have e4:(Y:Int)≤(z:Int):=by omega
         have hlob:lo<4294967296:=by omega
         have e2':IntKind.u32.wrap (lo:Int)=(lo:Int):=by rw [IntKind.wrap_u32'];omega
         clear hY
         clear key st1 st2 hval hLW hLl hlo hz hy hle
         go_wp2_with (at_builtin;refine wpList_append_own _ rfl _ _ 96 rfl w.heap.size 23 i0 (.int .u32 0) 1 4 Tryz.underlying96 hi hz0 hz1 hz2 rfl (by decide) _ _ _ rfl (hown.alloc _) ⟨_,0,none⟩ 1 1 [.int .u32 (lo:Int)] rfl rfl ?p1 ?p2 ?p3 ?p4 ?p5 ?_)
         all_goals first
           | (intro j u hj
              match j,hj with
              |0,hj=>simp at hj;subst hj;simp [Addr.add];done)
           |(show Value.oneCell' _=true;rfl)
           |(intro u hu;simp at hu;subst hu;rfl)
           |(unfold maxLen;omega)
           |omega
           |(simp;omega)
           |skip
         intro v' w1 hown' hgrow _
         have R1:w1.ownsRow w.heap.size 23 1 v' (k+1) (uk (L ++ [lo])):=own_snocU hown'
         have R2:=grown_belowU hb hB hown hgrow
         clear hown' hgrow hown
         go_wp2
         go_roundw
         case rel=>exact ⟨k+1,0,L ++ [lo],by omega,by go_num,rfl,by decide,HK.out.2.1,HK.out.1,HK.out.2.2,R1,R2⟩
         case measure=>simp [intOf];omega
     · by_cases h3:z<Y
       · have hi2b:decide ((k:Int)<(ys.length:Int))=false:=decide_eq_false (by omega)
         have y0:y=0:=by rw [←hy];exact getD_off h2
         have e1:Y=cr:=by omega
         subst e1
         obtain ⟨X,hX⟩:∃ X,X=z+4294967296:=⟨_,rfl⟩
         have hXb:X<18446744073709551616:=by omega
         obtain ⟨lo,hlo⟩:∃ lo,lo=X-Y:=⟨_,rfl⟩
         have HK:Hid _:=key z y lo 1 hz hy (by omega) (by omega)
         have hh1:(z:Int)<(Y:Int):=by omega
         have e2:(z:Int)+4294967296=(X:Int):=by omega
         have e3:(X:Int)-(Y:Int)=(lo:Int):=by omega
         have e4:(Y:Int)≤(X:Int):=by omega
         have hlob:lo<4294967296:=by omega
         have e2':IntKind.u32.wrap (lo:Int)=(lo:Int):=by rw [IntKind.wrap_u32'];omega
         clear hX
         clear y0 hY
         clear key st1 st2 hval hLW hLl hlo hz hy hle
         go_wp2_with (at_builtin;refine wpList_append_own _ rfl _ _ 96 rfl w.heap.size 23 i0 (.int .u32 0) 1 4 Tryz.underlying96 hi hz0 hz1 hz2 rfl (by decide) _ _ _ rfl (hown.alloc _) ⟨_,0,none⟩ 1 1 [.int .u32 (lo:Int)] rfl rfl ?q1 ?q2 ?q3 ?q4 ?q5 ?_)
         all_goals first
           | (intro j u hj
              match j,hj with
              |0,hj=>simp at hj;subst hj;simp [Addr.add];done)
           |(show Value.oneCell' _=true;rfl)
           |(intro u hu;simp at hu;subst hu;rfl)
           |(unfold maxLen;omega)
           |omega
           |(simp;omega)
           |skip
         intro v' w1 hown' hgrow _
         have R1:w1.ownsRow w.heap.size 23 1 v' (k+1) (uk (L ++ [lo])):=own_snocU hown'
         have R2:=grown_belowU hb hB hown hgrow
         clear hown' hgrow hown
         go_wp2
         go_roundw
         case rel=>exact ⟨k+1,1,L ++ [lo],by omega,by go_num,rfl,by decide,HK.out.2.1,HK.out.1,HK.out.2.2,R1,R2⟩
         case measure=>simp [intOf];omega
       · have hi2b:decide ((k:Int)<(ys.length:Int))=false:=decide_eq_false (by omega)
         have y0:y=0:=by rw [←hy];exact getD_off h2
         have e1:Y=cr:=by omega
         subst e1
         obtain ⟨lo,hlo⟩:∃ lo,lo=z-Y:=⟨_,rfl⟩
         have HK:Hid _:=key z y lo 0 hz hy (by omega) (by omega)
         have hh1:decide ((z:Int)<(Y:Int))=false:=decide_eq_false (by omega)
         have e3:(z:Int)-(Y:Int)=(lo:Int):=by omega
         have e4:(Y:Int)≤(z:Int):=by omega
         have hlob:lo<4294967296:=by omega
         have e2':IntKind.u32.wrap (lo:Int)=(lo:Int):=by rw [IntKind.wrap_u32'];omega
         clear y0 hY
         clear key st1 st2 hval hLW hLl hlo hz hy hle
         go_wp2_with (at_builtin;refine wpList_append_own _ rfl _ _ 96 rfl w.heap.size 23 i0 (.int .u32 0) 1 4 Tryz.underlying96 hi hz0 hz1 hz2 rfl (by decide) _ _ _ rfl (hown.alloc _) ⟨_,0,none⟩ 1 1 [.int .u32 (lo:Int)] rfl rfl ?s1 ?s2 ?s3 ?s4 ?s5 ?_)
         all_goals first
           | (intro j u hj
              match j,hj with
              |0,hj=>simp at hj;subst hj;simp [Addr.add];done)
           |(show Value.oneCell' _=true;rfl)
           |(intro u hu;simp at hu;subst hu;rfl)
           |(unfold maxLen;omega)
           |omega
           |(simp;omega)
           |skip
         intro v' w1 hown' hgrow _
         have R1:w1.ownsRow w.heap.size 23 1 v' (k+1) (uk (L ++ [lo])):=own_snocU hown'
         have R2:=grown_belowU hb hB hown hgrow
         clear hown' hgrow hown
         go_wp2
         go_roundw
         case rel=>exact ⟨k+1,0,L ++ [lo],by omega,by go_num,rfl,by decide,HK.out.2.1,HK.out.1,HK.out.2.2,R1,R2⟩
         case measure=>simp [intOf];omega
   · have hi1b:decide ((k:Int)<(zs.length:Int))=false:=decide_eq_false (by omega)
     have hkz:k=zs.length:=by omega
     have hk6:k≤1000000:=by omega
     have HV:=less_end hkz hl2 hle hcr hLl hLW hval
     clear key st1 st2 hval zw yw hkz
     obtain ⟨ao',cap',rfl,cc⟩:=cut_own hown hLl hk6 HV hLW
     go_wp2_with (go_at_call 136;refine cc.mono ?_;rintro e wq ⟨⟨vv,rfl,hvv⟩,hq⟩;subst wq)
     go_ret
     exact ⟨⟨_,rfl,hvv⟩,hb⟩
theorem nv_bit {zs:List Nat} (hW:Words zs) (j m:Nat) (hj:j<zs.length) (hm:m<32):nv zs / 2 ^ (32*j+m) % 2=zs.getD j 0 / 2 ^ m % 2:=by
 have h1:=nv_split zs j hj
 have h2:=nv_lt (words_take hW j)
 rw [show (zs.take j).length=j by simp;omega] at h2
 have e:2 ^ (32*j+m)=4294967296 ^ j*2 ^ m:=by rw [Nat.pow_add,Nat.pow_mul]
 rw [e,←Nat.div_div_eq_div_mul,h1,Nat.add_mul_div_left _ _ (Nat.pos_of_ne_zero (by intro h;rw [h] at h2;omega)),Nat.div_eq_of_lt h2,Nat.zero_add]
 have e2:4294967296*nv (zs.drop (j+1))=2 ^ m*(2*(2 ^ (31-m)*nv (zs.drop (j+1)))):=by
   rw [←Nat.mul_assoc,←Nat.mul_assoc,show 2 ^ m*2*2 ^ (31-m)=2 ^ (m+1+(31-m)) by rw [Nat.pow_add,Nat.pow_succ],show m+1+(31-m)=32 by omega]
 rw [e2,Nat.add_mul_div_left _ _ (Nat.pow_pos (by decide))]
 omega
theorem nv_bit_off {zs:List Nat} (hW:Words zs) (n:Nat) (h:zs.length≤n / 32):nv zs / 2 ^ n % 2=0:=by
 have h2:=nv_lt hW
 have h3:4294967296 ^ zs.length≤2 ^ n:=by
   rw [show (4294967296:Nat)=2 ^ 32 from rfl,←Nat.pow_mul]
   exact Nat.pow_le_pow_right (by decide) (by omega)
 rw [Nat.div_eq_of_lt (by omega)]
theorem bit_one (z m:Nat) (h:z<4294967296):(bits .and .u32 ((z:Int) / 2 ^ m) 1 == 1)=(z / 2 ^ m % 2 == 1):=by
 have h1:z / 2 ^ m<4294967296:=Nat.lt_of_le_of_lt (Nat.div_le_self _ _) h
 have h2:=u32_and_nat (z / 2 ^ m) 1 h1 (by decide)
 rw [Nat.and_one_is_mod] at h2
 have h3:((z:Int) / 2 ^ m)=((z / 2 ^ m:Nat):Int):=by simp
 rw [h3,show (1:Int)=((1:Nat):Int) from rfl,h2]
 rw [Bool.eq_iff_iff]
 simp only [beq_iff_eq]
 omega
theorem bit_any (ao:Option Addr) (cap:Nat) (zs:List Nat) (n:Nat) (w:World) (hl:zs.length≤1000) (hn:n≤1000000) (hr:ReadsU w ao zs w.heap.size) (hW:Words zs) :
   Calls Tryz.prog 137 #[.slice ao zs.length cap,.int .i64 n] w fun e w'=>e=.returned (.bool (nv zs / 2 ^ n % 2 == 1))∧w'=w:=by
 obtain ⟨j,hj⟩:∃ j,j=n / 32:=⟨_,rfl⟩
 obtain ⟨m,hm⟩:∃ m,m=n % 32:=⟨_,rfl⟩
 have hnn:n=32*j+m:=by omega
 have t1:Int.tdiv (n:Int) 32=(j:Int):=by rw [Int.tdiv_eq_ediv_of_nonneg (by omega)];omega
 have t2:Int.tmod (n:Int) 32=(m:Int):=by rw [Int.tmod_eq_emod_of_nonneg (by omega)];omega
 have g0:decide ((n:Int)<0)=false:=decide_eq_false (by omega)
 have hjb:j≤1000000:=by omega
 by_cases h1:j<zs.length
 · obtain ⟨z,hz⟩:∃ z,zs.getD j 0=z:=⟨_,rfl⟩
   have zw:=words_get hW j
   have hb:=nv_bit hW j m h1 (by omega)
   rw [←hnn,hz] at hb
   rw [hz] at zw
   rw [hb]
   obtain ⟨b1,off1,rfl,hbl1,hc1⟩:=hr (by omega)
   have hck1:=hc1 j h1
   rw [hz] at hck1
   have hi1:(j:Int)<(zs.length:Int):=by omega
   have hi2:decide ((zs.length:Int)≤(j:Int))=false:=decide_eq_false (by omega)
   have hmb:m<32:=by omega
   clear hc1 hb hz hnn hj hm
   go_enter Tryz.func137,Tryz.ntmps137
   go_wp2
   go_ret
   exact ⟨by rw [bit_one z m zw];rfl,rfl⟩
 · rw [nv_bit_off hW n (by omega)]
   have hi2:decide ((zs.length:Int)≤(j:Int))=true:=decide_eq_true (by omega)
   clear hnn hj hm
   go_enter Tryz.func137,Tryz.ntmps137
   go_wp2
   go_ret
   exact ⟨rfl,rfl⟩
theorem mod_step (V i j:Nat):V / 2 ^ i % 2 ^ (j+1)=V / 2 ^ i % 2 ^ j+2 ^ j*(V / 2 ^ (i+j) % 2):=by
 have h:V / 2 ^ (i+j)=V / 2 ^ i / 2 ^ j:=by rw [Nat.pow_add,Nat.div_div_eq_div_mul]
 rw [h,Nat.pow_succ,Nat.mod_mul]
theorem mod_word (V k:Nat):V % 4294967296 ^ (k+1)=V % 4294967296 ^ k+4294967296 ^ k*(V / 4294967296 ^ k % 4294967296):=by
 rw [Nat.pow_succ,Nat.mod_mul]
theorem div_word (V n k:Nat):V / 2 ^ (n+32*k) % 2 ^ 32=V / 2 ^ n / 4294967296 ^ k % 4294967296:=by
 rw [Nat.pow_add,Nat.pow_mul,←Nat.div_div_eq_div_mul]
theorem nv_one (x:Nat):nv [x]=x:=by simp [nv]
theorem or_bit (a j:Nat) (ha:a<2 ^ j) (hj:j<32):bits .or .u32 (a:Int) ((2 ^ j:Nat):Int)=((a+2 ^ j:Nat):Int):=by
 have h1:2 ^ j≤2147483648:=Nat.pow_le_pow_right (by decide) (show j≤31 by omega)
 have:=u32_or_nat (2 ^ j) a (by omega) (by omega)
 rw [nat_join j (2 ^ j) a (Nat.mod_self _) ha] at this
 have e:=u32_or_nat a (2 ^ j) (by omega) (by omega)
 rw [Nat.or_comm,nat_join j (2 ^ j) a (Nat.mod_self _) ha,Nat.add_comm] at e
 exact e
theorem down_any (ao:Option Addr) (cap:Nat) (zs:List Nat) (n:Nat) (w:World) (hl:zs.length≤1000) (hn:n≤100000) (hr:ReadsU w ao zs w.heap.size) (hW:Words zs) :
   Calls Tryz.prog 109 #[.slice ao zs.length cap,.int .i64 n] w fun e w'=>(∃ v,e=.returned v∧NatV w' v (nv zs / 2 ^ n))∧Below w.heap.size w w':=by
 obtain ⟨i0,hi,hz0,hz1,hz2⟩:=info_parts Tryz.infoU
 go_enter Tryz.func109,Tryz.ntmps109
 go_wp2
 go_loopw [5,6,7,8] (fun v i _ _ wr=>∃ k:Nat,∃ L:List Nat,(k=0∨n+32*k<32*zs.length+32)∧i=.int .i64 ((n+32*k:Nat):Int)∧L.length=k∧Words L∧nv L=nv zs / 2 ^ n % 4294967296 ^ k∧wr.ownsRow w.heap.size 23 1 v k (uk L)∧Below w.heap.size w wr)
   (fun _ i _ _ _=>32*zs.length-(intOf i).toNat)
 case atStart=>exact ⟨0,[],Or.inl rfl,by simp,rfl,(fun z hz=>by simp at hz),by simp [nv,Nat.mod_one],World.ownsRow_nil _ _ _ _,Below.refl _ _⟩
 case round=>
   obtain ⟨k,L,hk,rfl,hLl,hLW,hval,hown,hb⟩:=hrel
   have hB:=hb.size
   obtain ⟨I,hI⟩:∃ I,I=n+32*k:=⟨_,rfl⟩
   rw [←hI] at hk ⊢
   by_cases hlt:I<32*zs.length
   · have hltI:(I:Int)<32*(zs.length:Int):=by omega
     have hIb:I≤32000:=by omega
     have HI:Hid (I=n+32*k):=hI
     have HK:Hid (nv L=nv zs / 2 ^ n % 4294967296 ^ k∧L.length=k∧Words L):=⟨hval,hLl,hLW⟩
     clear hI hval hLl hLW hk
     rename World=>wr
     go_wp2
     go_loop [7,8] (fun x j=>∃ m:Nat,m≤32∧j=.int .i64 m∧x=.int .u32 ((nv zs / 2 ^ I % 2 ^ m:Nat):Int)) (fun _ j=>32-(intOf j).toNat)
     case atStart=>exact ⟨0,by omega,rfl,by simp [Nat.mod_one]⟩
     case round=>
       obtain ⟨m,hm,rfl,rfl⟩:=hrel
       by_cases hml:m<32
       · have hmI:(m:Int)<32:=by omega
         have ht:=bit_any ao cap zs (I+m) wr hl (by omega) ((hr.below hb).mono hB) hW
         have HS:Hid (nv zs / 2 ^ I % 2 ^ (m+1)=nv zs / 2 ^ I % 2 ^ m+2 ^ m*(nv zs / 2 ^ (I+m) % 2)):=mod_step _ _ _
         have hx:=Nat.mod_lt (nv zs / 2 ^ I) (Nat.two_pow_pos m)
         have hor:=or_bit (nv zs / 2 ^ I % 2 ^ m) m hx hml
         have hp32:2 ^ m≤2147483648:=Nat.pow_le_pow_right (by decide) (show m≤31 by omega)
         have hpI:((2:Int) ^ m)=((2 ^ m:Nat):Int):=by simp
         have hpw:IntKind.u32.wrap ((2 ^ m:Nat):Int)=((2 ^ m:Nat):Int):=by rw [IntKind.wrap_u32'];omega
         have hb2:=Nat.mod_lt (nv zs / 2 ^ (I+m)) (show 0<2 by decide)
         generalize nv zs / 2 ^ (I+m) % 2=bb at *
         generalize nv zs / 2 ^ I % 2 ^ m=xx at *
         have hcases:bb=0∨bb=1:=by omega
         rcases hcases with rfl|rfl
         · have ht':Calls Tryz.prog 137 #[.slice ao zs.length cap,.int .i64 ((I+m:Nat):Int)] wr fun e w'=>e=.returned (.bool false)∧w'=wr:=ht
           rw [Int.natCast_add] at ht'
           clear ht hor hpI hpw
           go_wp2_with (go_at_call 137;refine ht'.mono ?_;rintro e wq ⟨rfl,hq⟩;subst wq)
           go_round
           case rel=>exact ⟨m+1,by omega,by go_num,by rw [HS.out];simp⟩
           case measure=>simp [intOf];omega
         · have ht':Calls Tryz.prog 137 #[.slice ao zs.length cap,.int .i64 ((I+m:Nat):Int)] wr fun e w'=>e=.returned (.bool true)∧w'=wr:=ht
           rw [Int.natCast_add] at ht'
           clear ht
           generalize 2 ^ m=pm at *
           go_wp2_with (go_at_call 137;refine ht'.mono ?_;rintro e wq ⟨rfl,hq⟩;subst wq)
           go_round
           case rel=>exact ⟨m+1,by omega,by go_num,by rw [HS.out];simp⟩
           case measure=>simp [intOf];omega
       · obtain rfl:m=32:=by omega
         obtain ⟨hval,hLl,hLW⟩:=HK.out
         have hx:=Nat.mod_lt (nv zs / 2 ^ I) (Nat.two_pow_pos 32)
         have HV:Hid (nv (L ++ [nv zs / 2 ^ I % 2 ^ 32])=nv zs / 2 ^ n % 4294967296 ^ (k+1)):=by
           rw [Hid,nv_append,hLl,hval,nv_one,HI.out,mod_word,div_word]
         generalize nv zs / 2 ^ I % 2 ^ 32=LC at *
         have hLC:LC<4294967296:=hx
         have HLW:Hid (Words (L ++ [LC])):=by
           intro y hy
           rcases List.mem_append.1 hy with h|h
           · exact hLW y h
           · simp at h;omega
         have HLL:Hid ((L ++ [LC]).length=k+1):=by rw [Hid];simp [hLl]
         have hkb:k≤1000:=by have:=HI.out;omega
         clear hval hLl hLW hx HK
         go_wp2_with (at_builtin;refine wpList_append_own _ rfl _ _ 96 rfl w.heap.size 23 i0 (.int .u32 0) 1 4 Tryz.underlying96 hi hz0 hz1 hz2 rfl (by decide) _ _ _ rfl (hown.alloc _) ⟨_,0,none⟩ 1 1 [.int .u32 (LC:Int)] rfl rfl ?c1 ?c2 ?c3 ?c4 ?c5 ?_)
         case c2=>rfl
         case c3=>unfold maxLen;omega
         case c4=>omega
         case c5=>omega
         intro v' w1 hown' hgrow _
         have R1:w1.ownsRow w.heap.size 23 1 v' (k+1) (uk (L ++ [LC])):=own_snocU hown'
         have R2:=grown_belowU hb hB hown hgrow
         clear hown' hgrow hown
         go_wp2
         go_roundw
         case rel=>exact ⟨k+1,L ++ [LC],Or.inr (by have:=HI.out;omega),by rw [HI.out];go_num,HLL.out,HLW.out,HV.out,R1,R2⟩
         case measure=>simp [intOf];omega
   · have hltI:¬ (I:Int)<32*(zs.length:Int):=by omega
     have hkb:k≤1001:=by omega
     have HV:Hid (nv L=nv zs / 2 ^ n):=by
       rw [Hid,hval]
       apply Nat.mod_eq_of_lt
       rw [Nat.div_lt_iff_lt_mul (Nat.two_pow_pos n)]
       refine Nat.lt_of_lt_of_le (nv_lt hW) ?_
       rw [show (4294967296:Nat)=2 ^ 32 from rfl,←Nat.pow_mul,←Nat.pow_mul,←Nat.pow_add]
       exact Nat.pow_le_pow_right (by decide) (by omega)
     have HLW:Hid (Words L):=hLW
     have R1:=hown
     rw [←hLl] at R1
     obtain ⟨ao',cap',rfl,hrd⟩:=own_readsU R1
     have hcap:=own_cap R1
     have HRD:Hid (ReadsU _ ao' L _):=hrd
     have cc:=cut_any ao' cap' L _ hcap.1 (by omega) hrd hcap.2
     clear R1 hrd hown hval hLW hk hI
     subst hLl
     go_wp2_with (go_at_call 136;refine cc.mono ?_;rintro e wq ⟨⟨nn,hnn,rfl,ht,hN⟩,hq⟩;subst wq)
     go_ret
     have hl3:(L.take nn).length=nn:=by simp;omega
     exact ⟨⟨_,rfl,ao',cap',L.take nn,by rw [hl3];rfl,by rw [hl3];omega,hcap.2,by rw [ht];exact HV.out,hN,words_take HLW.out nn,HRD.out.take nn hnn⟩,hb⟩
end Go.Proofs.YtibhlcfligfhdaaGreat
