import Derived.Test.YtibhlcfligfhdaaGreatCSVal
import Derived.Deep.RegionWith
import Derived.Test.YtibhlcfligfhdaaGreatCPKp
import Derived.Test.YtibhlcfligfhdaaGreatCSPlus
import Derived.Deep.RegionHeld3
namespace Go.Proofs.YtibhlcfligfhdaaGreat
set_option maxHeartbeats 4000000
open Go.RowKit
set_option maxRecDepth 100000
theorem shut_none (o1:bits .or .u64 2139095040 4194304=2143289344) (w:World) :
   Calls Tryz.prog 128 #[.agg #[.int .i64 24,.int .i64 (-149),.int .i64 104],.agg #[.int .u8 1,.bool false,.int .u64 0,.int .i64 0]] w fun e w'=>e=.returned (.int .u64 2143289344)∧Below w.heap.size w w':=by
 go_enter Tryz.func128,Tryz.ntmps128
 go_wp2_with (first
   |(go_at_call 142;refine (most_any _).mono ?_;rintro e wq ⟨rfl,hq⟩;subst wq)
   |(go_at_call 143;refine (bitsof_any _).mono ?_;rintro e wq ⟨rfl,hq⟩;subst wq))
 go_ret
 exact ⟨rfl,by repeat (first|exact Below.refl _ _|refine bel ?_)⟩
theorem shut_endless0 (X:Int) (o1:bits .or .u64 0 2139095040=X) (w:World) :
   Calls Tryz.prog 128 #[.agg #[.int .i64 24,.int .i64 (-149),.int .i64 104],.agg #[.int .u8 2,.bool false,.int .u64 0,.int .i64 0]] w fun e w'=>e=.returned (.int .u64 X)∧Below w.heap.size w w':=by
 go_enter Tryz.func128,Tryz.ntmps128
 go_wp2_with (first
   |(go_at_call 142;refine (most_any _).mono ?_;rintro e wq ⟨rfl,hq⟩;subst wq)
   |(go_at_call 143;refine (bitsof_any _).mono ?_;rintro e wq ⟨rfl,hq⟩;subst wq))
 go_ret
 exact ⟨rfl,by repeat (first|exact Below.refl _ _|refine bel ?_)⟩
theorem shut_small0 (n:Nat) (p:Int) (h:(n:Int)<8388608) (X:Int) (o1:bits .or .u64 0 (n:Int)=X) (w:World) :
   Calls Tryz.prog 128 #[.agg #[.int .i64 24,.int .i64 (-149),.int .i64 104],.agg #[.int .u8 3,.bool false,.int .u64 n,.int .i64 p]] w fun e w'=>e=.returned (.int .u64 X)∧Below w.heap.size w w':=by
 go_enter Tryz.func128,Tryz.ntmps128
 go_wp2_with (first
   |(go_at_call 142;refine (most_any _).mono ?_;rintro e wq ⟨rfl,hq⟩;subst wq)
   |(go_at_call 143;refine (bitsof_any _).mono ?_;rintro e wq ⟨rfl,hq⟩;subst wq))
 go_ret
 exact ⟨rfl,by repeat (first|exact Below.refl _ _|refine bel ?_)⟩
theorem shut_norm0 (g k:Nat) (h:g<8388608) (hk:k<254) (g1:decide ((g:Int)+8388608<8388608)=false) (X Y:Int) (o1:bits .or .u64 0 ((-149+(k:Int)+149+1)*8388608)=Y) (o2:bits .or .u64 Y (g:Int)=X) (w:World) :
   Calls Tryz.prog 128 #[.agg #[.int .i64 24,.int .i64 (-149),.int .i64 104],.agg #[.int .u8 3,.bool false,.int .u64 ((g:Int)+8388608),.int .i64 (-149+(k:Int))]] w fun e w'=>e=.returned (.int .u64 X)∧Below w.heap.size w w':=by
 go_enter Tryz.func128,Tryz.ntmps128
 go_wp2_with (first
   |(go_at_call 142;refine (most_any _).mono ?_;rintro e wq ⟨rfl,hq⟩;subst wq)
   |(go_at_call 143;refine (bitsof_any _).mono ?_;rintro e wq ⟨rfl,hq⟩;subst wq))
 go_ret
 exact ⟨rfl,by repeat (first|exact Below.refl _ _|refine bel ?_)⟩
theorem shut_endless1 (X:Int) (o1:bits .or .u64 2147483648 2139095040=X) (w:World) :
   Calls Tryz.prog 128 #[.agg #[.int .i64 24,.int .i64 (-149),.int .i64 104],.agg #[.int .u8 2,.bool true,.int .u64 0,.int .i64 0]] w fun e w'=>e=.returned (.int .u64 X)∧Below w.heap.size w w':=by
 go_enter Tryz.func128,Tryz.ntmps128
 go_wp2_with (first
   |(go_at_call 142;refine (most_any _).mono ?_;rintro e wq ⟨rfl,hq⟩;subst wq)
   |(go_at_call 143;refine (bitsof_any _).mono ?_;rintro e wq ⟨rfl,hq⟩;subst wq))
 go_ret
 exact ⟨rfl,by repeat (first|exact Below.refl _ _|refine bel ?_)⟩
theorem shut_small1 (n:Nat) (p:Int) (h:(n:Int)<8388608) (X:Int) (o1:bits .or .u64 2147483648 (n:Int)=X) (w:World) :
   Calls Tryz.prog 128 #[.agg #[.int .i64 24,.int .i64 (-149),.int .i64 104],.agg #[.int .u8 3,.bool true,.int .u64 n,.int .i64 p]] w fun e w'=>e=.returned (.int .u64 X)∧Below w.heap.size w w':=by
 go_enter Tryz.func128,Tryz.ntmps128
 go_wp2_with (first
   |(go_at_call 142;refine (most_any _).mono ?_;rintro e wq ⟨rfl,hq⟩;subst wq)
   |(go_at_call 143;refine (bitsof_any _).mono ?_;rintro e wq ⟨rfl,hq⟩;subst wq))
 go_ret
 exact ⟨rfl,by repeat (first|exact Below.refl _ _|refine bel ?_)⟩
theorem shut_norm1 (g k:Nat) (h:g<8388608) (hk:k<254) (g1:decide ((g:Int)+8388608<8388608)=false) (X Y:Int) (o1:bits .or .u64 2147483648 ((-149+(k:Int)+149+1)*8388608)=Y) (o2:bits .or .u64 Y (g:Int)=X) (w:World) :
   Calls Tryz.prog 128 #[.agg #[.int .i64 24,.int .i64 (-149),.int .i64 104],.agg #[.int .u8 3,.bool true,.int .u64 ((g:Int)+8388608),.int .i64 (-149+(k:Int))]] w fun e w'=>e=.returned (.int .u64 X)∧Below w.heap.size w w':=by
 go_enter Tryz.func128,Tryz.ntmps128
 go_wp2_with (first
   |(go_at_call 142;refine (most_any _).mono ?_;rintro e wq ⟨rfl,hq⟩;subst wq)
   |(go_at_call 143;refine (bitsof_any _).mono ?_;rintro e wq ⟨rfl,hq⟩;subst wq))
 go_ret
 exact ⟨rfl,by repeat (first|exact Below.refl _ _|refine bel ?_)⟩
theorem lay_of (v:Value) (r:Nat) (w:World) (hr:r<4294967296) (hs:∀ w,Calls Tryz.prog 128 #[.agg #[.int .i64 24,.int .i64 (-149),.int .i64 104],v] w fun e w'=>e=.returned (.int .u64 (r:Int))∧Below w.heap.size w w') (hv:∃ s m n p,v=.agg #[.int .u8 s,.bool m,.int .u64 n,.int .i64 p]) :
   Calls Tryz.prog 104 #[v] w fun e w'=>e=.returned (.int .u32 (r:Int))∧Below w.heap.size w w':=by
 obtain ⟨s,m,n,p,rfl⟩:=hv
 have hw:IntKind.u32.wrap (r:Int)=(r:Int):=by rw [IntKind.wrap_u32'];omega
 go_enter Tryz.func104,Tryz.ntmps104
 go_wp2
 go_region_with (first
   |(go_at_call 106;refine (form_any _).mono ?_;rintro e wq ⟨rfl,hq⟩;subst wq)
   |(go_at_call 128;refine (hs _).mono ?_;rintro e wq ⟨rfl,hq⟩))
 all_goals go_wp2
 all_goals go_ret
 all_goals exact ⟨by first|rfl|(rw [←hw];rfl),Below.trans (by repeat (first|exact Below.refl _ _|refine bel ?_|refine Below.drew ?_)) (hq.mono (by simp;omega))⟩
theorem wrd_lt (m:Bool) (r:Nat) (h:r<2147483648):wrd m r<4294967296:=by
 unfold wrd;split <;> omega
theorem kg_lt {k g:Nat} (hk:k<254) (hg:g<8388608):k*8388608+(g+8388608)<2147483648:=by omega
theorem kg1 {k g:Nat} (hk:k<254) (hg:g<8388608):(k+1)*8388608 % 2 ^ 23=0∧g<2 ^ 23∧(k+1)*8388608+g<18446744073709551616∧(2147483648+(k+1)*8388608) % 2 ^ 23=0∧2147483648+(k+1)*8388608+g<18446744073709551616:=by omega
theorem kg2 {k:Nat} (hk:k<254):(k+1)*8388608<2 ^ 31∧0+(k+1)*8388608<18446744073709551616∧2147483648+(k+1)*8388608<18446744073709551616:=by omega
theorem kg3 (k g:Nat):(k+1)*8388608+g=wrd false (k*8388608+(g+8388608)):=by
 show _=0+(k*8388608+(g+8388608));omega
theorem kg4 (k g:Nat):2147483648+(k+1)*8388608+g=wrd true (k*8388608+(g+8388608)):=by
 show _=2147483648+(k*8388608+(g+8388608));omega
theorem lay_none (w:World) :
   Calls Tryz.prog 104 #[.agg #[.int .u8 1,.bool false,.int .u64 0,.int .i64 0]] w fun e w'=>e=.returned (.int .u32 2143289344)∧Below w.heap.size w w':=
 lay_of _ 2143289344 w (by decide) (fun w=>shut_none (b64_or 23 2139095040 4194304 (by decide) (by decide) (by decide)) w) ⟨_,_,_,_,rfl⟩
theorem lay_endless (m:Bool) (w:World) :
   Calls Tryz.prog 104 #[.agg #[.int .u8 2,.bool m,.int .u64 0,.int .i64 0]] w fun e w'=>e=.returned (.int .u32 (wrd m 2139095040:Nat))∧Below w.heap.size w w':=by
 cases m
 · exact lay_of _ 2139095040 w (by decide) (fun w=>shut_endless0 _ (b64_or 31 0 2139095040 (by decide) (by decide) (by decide)) w) ⟨_,_,_,_,rfl⟩
 · exact lay_of _ 4286578688 w (by decide) (fun w=>shut_endless1 _ (b64_or 31 2147483648 2139095040 (by decide) (by decide) (by decide)) w) ⟨_,_,_,_,rfl⟩
theorem lay_fin (m:Bool) (n k:Nat) (w:World) (hn:n<16777216) (hk:k<254) (hnk:k=0∨8388608≤n) :
   Calls Tryz.prog 104 #[.agg #[.int .u8 3,.bool m,.int .u64 n,.int .i64 (-149+(k:Int))]] w fun e w'=>e=.returned (.int .u32 (wrd m (k*8388608+n):Nat))∧Below w.heap.size w w':=by
 by_cases hs:n<8388608
 · have hk0:k=0:=by omega
   subst hk0
   rw [Nat.zero_mul,Nat.zero_add]
   cases m
   · refine lay_of _ (wrd false n) w (wrd_lt _ _ (by omega)) (fun w=>shut_small0 n _ (by omega) _ ?_ w) ⟨_,_,_,_,rfl⟩
     exact b64_or 31 0 n (by decide) (by omega) (by omega)
   · refine lay_of _ (wrd true n) w (wrd_lt _ _ (by omega)) (fun w=>shut_small1 n _ (by omega) _ ?_ w) ⟨_,_,_,_,rfl⟩
     exact b64_or 31 2147483648 n (by decide) (by omega) (by omega)
 · obtain ⟨g,rfl⟩:∃ g,n=g+8388608:=⟨n-8388608,by omega⟩
   have hg:g<8388608:=by omega
   have e:(-149+(k:Int)+149+1)*8388608=(((k+1)*8388608:Nat):Int):=by omega
   have e2:((g+8388608:Nat):Int)=(g:Int)+8388608:=by omega
   rw [e2]
   cases m
   · refine lay_of _ (wrd false (k*8388608+(g+8388608))) w (wrd_lt _ _ (kg_lt hk hg)) (fun w=>shut_norm0 g k hg hk (decide_eq_false (by omega)) _ (((k+1)*8388608:Nat):Int) ?_ ?_ w) ⟨_,_,_,_,rfl⟩
     · rw [e]
       have:=b64_or 31 0 ((k+1)*8388608) (by decide) (kg2 hk).1 (kg2 hk).2.1
       rwa [Nat.zero_add] at this
     · have:=b64_or 23 ((k+1)*8388608) g (kg1 hk hg).1 (kg1 hk hg).2.1 (kg1 hk hg).2.2.1
       rw [this];exact congrArg Nat.cast (kg3 k g)
   · refine lay_of _ (wrd true (k*8388608+(g+8388608))) w (wrd_lt _ _ (kg_lt hk hg)) (fun w=>shut_norm1 g k hg hk (decide_eq_false (by omega)) _ ((2147483648+(k+1)*8388608:Nat):Int) ?_ ?_ w) ⟨_,_,_,_,rfl⟩
     · rw [e]
       exact b64_or 31 2147483648 ((k+1)*8388608) (by decide) (kg2 hk).1 (kg2 hk).2.2
     · have:=b64_or 23 (2147483648+(k+1)*8388608) g (kg1 hk hg).2.2.2.1 (kg1 hk hg).2.1 (kg1 hk hg).2.2.2.2
       rw [this];exact congrArg Nat.cast (kg4 k g)
/-! to the nearest whole number,of two the even one -/
def rne (n g:Nat):Nat:=n / g+(if g<2*(n % g)∨(g=2*(n % g)∧n / g % 2=1) then 1 else 0)
theorem rne_up (n g:Nat) (hg:0<g):2*n≤(2*rne n g+1)*g∧(2*n=(2*rne n g+1)*g→rne n g % 2=0):=by
 have h1:=Nat.div_add_mod n g
 have h2:=Nat.mod_lt n hg
 unfold rne
 generalize n / g=t at *
 generalize n % g=s at *
 rw [Nat.add_mul,Nat.mul_assoc,Nat.one_mul,Nat.add_mul,Nat.mul_comm t g]
 split
 · simp only [Nat.one_mul]
   omega
 · simp only [Nat.zero_mul,Nat.add_zero]
   omega
theorem rne_dn (n g:Nat) (hg:0<g):2*rne n g*g≤2*n+g∧(2*rne n g*g=2*n+g→rne n g % 2=0):=by
 have h1:=Nat.div_add_mod n g
 have h2:=Nat.mod_lt n hg
 unfold rne
 generalize n / g=t at *
 generalize n % g=s at *
 rw [Nat.mul_assoc,Nat.add_mul,Nat.mul_comm t g]
 split
 · simp only [Nat.one_mul]
   omega
 · simp only [Nat.zero_mul,Nat.add_zero]
   omega
theorem rne_ge (n g:Nat):n / g≤rne n g:=by unfold rne;omega
theorem rne_le (n g:Nat):rne n g≤n / g+1:=by unfold rne;split <;> omega
theorem cut_eq (neg:Bool) (n drop:Nat):Ieee.Toward.even.cut neg n drop=rne n (2 ^ drop):=by
 unfold Ieee.Toward.cut rne
 dsimp only
 rw [Nat.shiftLeft_eq,Nat.one_mul]
 by_cases h:drop≤n.log2+2
 · rw [Nat.min_eq_left h]
   congr 1
   generalize 2 ^ drop=g
   by_cases a:g<2*(n % g)
   · rw [if_pos (Or.inl a),decide_eq_true a];rfl
   · by_cases b:g=2*(n % g)∧n / g % 2=1
     · rw [if_pos (Or.inr b),decide_eq_false a]
       have e1:(g == 2*(n % g))=true:=by rw [←b.1];exact beq_self_eq_true g
       rw [e1,b.2];rfl
     · rw [if_neg (fun h=>h.elim a b),decide_eq_false a]
       have:(g == 2*(n % g) && n / g % 2 == 1)=false:=by
         rw [←Bool.not_eq_true]
         intro hh
         rw [Bool.and_eq_true,beq_iff_eq,beq_iff_eq] at hh
         exact b hh
       rw [this];rfl
 · rw [Nat.min_eq_right (by omega)]
   have h1:n<2 ^ (n.log2+1):=Nat.lt_log2_self
   have h2:2 ^ (n.log2+2)=2*2 ^ (n.log2+1):=by rw [Nat.pow_succ,Nat.mul_comm]
   have h3:2 ^ (n.log2+2)≤2 ^ drop:=Nat.pow_le_pow_right (by decide) (by omega)
   have h4:n<2 ^ (n.log2+2):=by omega
   have h5:n<2 ^ drop:=by omega
   rw [Nat.div_eq_of_lt h4,Nat.mod_eq_of_lt h4,Nat.div_eq_of_lt h5,Nat.mod_eq_of_lt h5,if_neg (by omega)]
   rw [decide_eq_false (by omega),show (2 ^ (n.log2+2) == 2*n)=false by simp;omega]
   rfl
/-! the rungs' sizes -/
def vl (B r:Nat):Nat:=if r<B then r else (B+r % B)*2 ^ (r / B-1)
theorem vl_at (B:Nat) (hB:0<B) (q k:Nat) (h:q=0∨B≤k) (hk:k≤2*B):vl B (q*B+k)=k*2 ^ q:=by
 unfold vl
 by_cases h1:k<B
 · have:q=0:=by omega
   subst this
   rw [Nat.zero_mul,Nat.zero_add,if_pos h1];simp
 · obtain ⟨j,rfl⟩:∃ j,k=B+j:=⟨k-B,by omega⟩
   have e:q*B+(B+j)=B*(q+1)+j:=by rw [Nat.mul_add,Nat.mul_comm];omega
   rw [e,if_neg (by have:=Nat.le_mul_of_pos_right B (show 0<q+1 by omega);omega)]
   by_cases h2:j<B
   · rw [Nat.mul_add_mod,Nat.mod_eq_of_lt h2,Nat.mul_add_div hB,Nat.div_eq_of_lt h2]
     simp
   · have:j=B:=by omega
     subst this
     rw [show j*(q+1)+j=j*(q+2) by rw [Nat.mul_add,Nat.mul_add];omega,Nat.mul_mod_right,Nat.mul_div_cancel_left _ hB]
     rw [show q+2-1=q+1 by omega,Nat.pow_succ]
     simp only [Nat.add_zero]
     rw [←Nat.two_mul,Nat.mul_comm 2 j,Nat.mul_assoc,Nat.mul_comm (2 ^ q) 2]
theorem rung_form (B:Nat) (hB:0<B) (r:Nat):∃ q k,r=q*B+k∧(q=0∨B≤k)∧k<2*B:=by
 by_cases h:r<B
 · exact ⟨0,r,by simp,Or.inl rfl,by omega⟩
 · refine ⟨r / B-1,B+r % B,?_,Or.inr (Nat.le_add_right _ _),by have:=Nat.mod_lt r hB;omega⟩
   have h1:=Nat.div_add_mod r B
   have h2:1≤r / B:=(Nat.le_div_iff_mul_le hB).2 (by omega)
   obtain ⟨t,ht⟩:∃ t,r / B=t+1:=⟨r / B-1,by omega⟩
   rw [ht] at h1 ⊢
   rw [Nat.mul_add,Nat.mul_comm] at h1
   simp only [Nat.add_sub_cancel]
   omega
theorem vl_succ (B:Nat) (hB:0<B) (r:Nat):vl B r<vl B (r+1):=by
 obtain ⟨q,k,rfl,h1,h2⟩:=rung_form B hB r
 rw [vl_at B hB q k h1 (by omega),Nat.add_assoc,vl_at B hB q (k+1) (by omega) (by omega)]
 exact Nat.mul_lt_mul_of_pos_right (by omega) (Nat.two_pow_pos _)
theorem vl_lt (B:Nat) (hB:0<B) {r s:Nat} (h:r<s):vl B r<vl B s:=by
 obtain ⟨k,rfl⟩:∃ k,s=r+1+k:=⟨s-(r+1),by omega⟩
 clear h
 induction k with
 |zero=>exact vl_succ B hB r
 |succ k ih=>exact Nat.lt_trans ih (vl_succ B hB _)
def Near (B d N r:Nat):Prop:=
 (2*N≤(vl B r+vl B (r+1))*2 ^ d∧(2*N=(vl B r+vl B (r+1))*2 ^ d→r % 2=0)) ∧
 ∀ r',r'+1=r→(vl B r'+vl B r)*2 ^ d≤2*N∧((vl B r'+vl B r)*2 ^ d=2*N→r % 2=0)
theorem Near.mono {B d N N' r r':Nat} (hB:0<B) (h:Near B d N r) (h':Near B d N' r') (hN:N≤N'):r≤r':=by
 apply Nat.le_of_not_lt
 intro hlt
 obtain ⟨t,rfl⟩:∃ t,r=t+1:=⟨r-1,by omega⟩
 obtain ⟨h1,h2⟩:=h.2 t rfl
 obtain ⟨h3,h4⟩:=h'.1
 have hp:=Nat.two_pow_pos d
 by_cases e:r'=t
 · subst e
   have e1:=h2 (by omega)
   have e2:=h4 (by omega)
   omega
 · have a1:=vl_lt B hB (show r'<t by omega)
   have a2:=vl_lt B hB (show r'+1<t+1 by omega)
   have:=Nat.mul_lt_mul_of_pos_right (show vl B r'+vl B (r'+1)<vl B t+vl B (t+1) by omega) hp
   omega
theorem Near.unique {B d N r r':Nat} (hB:0<B) (h:Near B d N r) (h':Near B d N r'):r=r':=
 Nat.le_antisymm (h.mono hB h' (Nat.le_refl _)) (h'.mono hB h (Nat.le_refl _))
theorem near_self (B d r:Nat) (hB:0<B):Near B d (vl B r*2 ^ d) r:=by
 have hp:=Nat.two_pow_pos d
 refine ⟨?_,fun t ht=>?_⟩
 · have:=Nat.mul_lt_mul_of_pos_right (vl_succ B hB r) hp
   rw [Nat.add_mul]
   exact ⟨by omega,fun e=>by omega⟩
 · subst ht
   have:=Nat.mul_lt_mul_of_pos_right (vl_succ B hB t) hp
   rw [Nat.add_mul]
   exact ⟨by omega,fun e=>by omega⟩
/-! the rung that Ieee takes -/
def lastOf (f:Ieee.Format) (mag:Nat) (place:Int):Int:=max (place+mag.log2-f.fractionBits) f.leastPlace
def rg (f:Ieee.Format) (mag:Nat) (place:Int):Nat:=
 if mag=0 then 0 else (lastOf f mag place-f.leastPlace).toNat*f.binade+rne (mag <<< (place-lastOf f mag place).toNat) (2 ^ (lastOf f mag place-place).toNat)
theorem nearest_rg (f:Ieee.Format) (neg:Bool) (mag:Nat) (place:Int):f.nearest neg mag place=f.word neg (min (rg f mag place) f.infRung):=by
 unfold Ieee.Format.nearest rg
 split
 · rw [Nat.zero_min]
 · dsimp only
   rw [cut_eq];rfl
theorem near_kept (p q d n g N k:Nat) (hg:0<g) (hN:N*g=n*2 ^ (q+d)) (hk:k=rne n g) (hlo:q=0∨2 ^ p≤n / g) (hhi:n / g<2*2 ^ p) (hp:0<p) :
   Near (2 ^ p) d N (q*2 ^ p+k):=by
 have hB:=Nat.two_pow_pos p
 have hup:=rne_up n g hg
 have hdn:=rne_dn n g hg
 have hge:=rne_ge n g
 have hle:=rne_le n g
 rw [←hk] at hup hdn hge hle
 have hkB:k≤2*2 ^ p:=by omega
 have hkl:q=0∨2 ^ p≤k:=by omega
 have hpq:=Nat.two_pow_pos (q+d)
 have hv:=vl_at (2 ^ p) hB q k hkl hkB
 have hpar:(q*2 ^ p+k) % 2=k % 2:=by
   obtain ⟨p',rfl⟩:∃ p',p=p'+1:=⟨p-1,by omega⟩
   rw [Nat.pow_succ,←Nat.mul_assoc];omega
 -- what is held against the middles
 have up2:2*N≤(2*k+1)*2 ^ (q+d)∧(2*N=(2*k+1)*2 ^ (q+d)→k % 2=0):=by
   have e:(2*N)*g=(2*n)*2 ^ (q+d):=by rw [Nat.mul_assoc,hN,Nat.mul_assoc]
   have e2:(2*k+1)*2 ^ (q+d)*g=(2*k+1)*g*2 ^ (q+d):=by rw [Nat.mul_assoc,Nat.mul_comm (2 ^ (q+d)) g,←Nat.mul_assoc]
   refine ⟨?_,fun h=>hup.2 ?_⟩
   · refine Nat.le_of_mul_le_mul_right (c:=g) ?_ hg
     rw [e,e2]
     exact Nat.mul_le_mul_right _ hup.1
   · have:(2*N)*g=(2*k+1)*2 ^ (q+d)*g:=by rw [h]
     rw [e,e2] at this
     exact Nat.eq_of_mul_eq_mul_right hpq this
 have dn2:2*k*2 ^ (q+d)≤2*N+2 ^ (q+d)∧(2*k*2 ^ (q+d)=2*N+2 ^ (q+d)→k % 2=0):=by
   have e:(2*N+2 ^ (q+d))*g=(2*n+g)*2 ^ (q+d):=by
     rw [Nat.add_mul,Nat.mul_assoc,hN,Nat.add_mul,Nat.mul_assoc,Nat.mul_comm g]
   have e2:2*k*2 ^ (q+d)*g=2*k*g*2 ^ (q+d):=by rw [Nat.mul_assoc,Nat.mul_comm (2 ^ (q+d)) g,←Nat.mul_assoc]
   refine ⟨?_,fun h=>hdn.2 ?_⟩
   · refine Nat.le_of_mul_le_mul_right (c:=g) ?_ hg
     rw [e,e2]
     exact Nat.mul_le_mul_right _ hdn.1
   · have:2*k*2 ^ (q+d)*g=(2*N+2 ^ (q+d))*g:=by rw [h]
     rw [e,e2] at this
     exact Nat.eq_of_mul_eq_mul_right hpq this
 have hpd:=Nat.two_pow_pos d
 have hpqd:2 ^ (q+d)=2 ^ q*2 ^ d:=Nat.pow_add _ _ _
 refine ⟨?_,fun t ht=>?_⟩
 · rw [hv,hpar]
   by_cases hk2:k<2*2 ^ p
   · have hv1:=vl_at (2 ^ p) hB q (k+1) (by omega) (by omega)
     rw [Nat.add_assoc,hv1]
     have e:(k*2 ^ q+(k+1)*2 ^ q)*2 ^ d=(2*k+1)*2 ^ (q+d):=by
       rw [←Nat.add_mul,hpqd,Nat.mul_assoc];congr 1;omega
     rw [e]
     exact up2
   · have hv1:=vl_lt (2 ^ p) hB (show q*2 ^ p+k<q*2 ^ p+k+1 by omega)
     -- one step of twice the width
     have hk3:k=2*2 ^ p:=by omega
     have hv2:=vl_at (2 ^ p) hB (q+1) (2 ^ p+1) (Or.inr (by omega)) (by omega)
     have e0:q*2 ^ p+k+1=(q+1)*2 ^ p+(2 ^ p+1):=by rw [hk3,Nat.add_mul];omega
     rw [e0,hv2]
     have e:(k*2 ^ q+(2 ^ p+1)*2 ^ (q+1))*2 ^ d=(2*k+2)*2 ^ (q+d):=by
       rw [Nat.pow_succ,Nat.mul_comm (2 ^ q) 2,←Nat.mul_assoc,←Nat.add_mul,hpqd,Nat.mul_assoc];congr 1;omega
     rw [e]
     have:(2*k+1)*2 ^ (q+d)<(2*k+2)*2 ^ (q+d):=Nat.mul_lt_mul_of_pos_right (by omega) hpq
     exact ⟨by omega,fun h=>by omega⟩
 · rw [hv,hpar]
   by_cases hq:q=0∨2 ^ p+1≤k
   · have hk0:1≤k:=by rcases hq with rfl|h;omega;omega
     have hv1:=vl_at (2 ^ p) hB q (k-1) (by omega) (by omega)
     have e0:t=q*2 ^ p+(k-1):=by omega
     rw [e0,hv1]
     obtain ⟨j,rfl⟩:∃ j,k=j+1:=⟨k-1,by omega⟩
     simp only [Nat.add_sub_cancel]
     have e:(j*2 ^ q+(j+1)*2 ^ q)*2 ^ d=(2*j+1)*2 ^ (q+d):=by
       rw [←Nat.add_mul,hpqd,Nat.mul_assoc];congr 1;omega
     rw [e]
     have e1:2*(j+1)*2 ^ (q+d)=(2*j+1)*2 ^ (q+d)+2 ^ (q+d):=by
       rw [show 2*(j+1)=(2*j+1)+1 by omega,Nat.add_mul (2*j+1) 1,Nat.one_mul]
     rw [e1] at dn2
     exact ⟨by omega,fun h=>dn2.2 (by omega)⟩
   · have hkp:k=2 ^ p:=by omega
     have hq0:0<q:=by omega
     obtain ⟨q',rfl⟩:∃ q',q=q'+1:=⟨q-1,by omega⟩
     have hnk:2 ^ p≤n / g:=by omega
     have hng:k*g≤n:=by rw [hkp];exact (Nat.le_div_iff_mul_le hg).1 hnk
     have hNk:k*2 ^ (q'+1+d)≤N:=by
       refine Nat.le_of_mul_le_mul_right (c:=g) ?_ hg
       rw [hN,Nat.mul_assoc,Nat.mul_comm (2 ^ (q'+1+d)) g,←Nat.mul_assoc]
       exact Nat.mul_le_mul_right _ hng
     have hvt:=vl_lt (2 ^ p) hB (show t<(q'+1)*2 ^ p+k by omega)
     rw [hv] at hvt
     have:(vl (2 ^ p) t+k*2 ^ (q'+1))*2 ^ d<(k*2 ^ (q'+1)+k*2 ^ (q'+1))*2 ^ d:=Nat.mul_lt_mul_of_pos_right (by omega) hpd
     have e:(k*2 ^ (q'+1)+k*2 ^ (q'+1))*2 ^ d=2*(k*2 ^ (q'+1+d)):=by
       rw [hpqd,←Nat.two_mul,Nat.mul_assoc,Nat.mul_assoc]
     rw [e] at this
     exact ⟨by omega,fun h=>by omega⟩
theorem rg_near (f:Ieee.Format) (hp:0<f.fractionBits) (mag:Nat) (place:Int) (d:Nat) (hd:f.leastPlace≤place+d) :
   Near f.binade d (mag*2 ^ (place-f.leastPlace+d).toNat) (rg f mag place):=by
 have hB:0<f.binade:=Nat.two_pow_pos _
 unfold rg
 by_cases hm:mag=0
 · rw [if_pos hm,hm,Nat.zero_mul]
   have:=near_self f.binade d 0 hB
   rwa [show vl f.binade 0=0 by unfold vl;rw [if_pos hB],Nat.zero_mul] at this
 rw [if_neg hm]
 have hlt:mag<2 ^ (mag.log2+1):=Nat.lt_log2_self
 have hge:2 ^ mag.log2≤mag:=Nat.log2_self_le hm
 have hl:lastOf f mag place=max (place+mag.log2-f.fractionBits) f.leastPlace:=rfl
 generalize lastOf f mag place=last at hl ⊢
 generalize mag.log2=L at *
 refine near_kept f.fractionBits (last-f.leastPlace).toNat d (mag <<< (place-last).toNat) (2 ^ (last-place).toNat) _ _ (Nat.two_pow_pos _) ?_ rfl ?_ ?_ hp
 · rw [Nat.shiftLeft_eq,Nat.mul_assoc,Nat.mul_assoc,←Nat.pow_add,←Nat.pow_add]
   congr 2
   omega
 · by_cases hq:(last-f.leastPlace).toNat=0
   · exact Or.inl hq
   · refine Or.inr ?_
     rw [Nat.le_div_iff_mul_le (Nat.two_pow_pos _),←Nat.pow_add,Nat.shiftLeft_eq]
     refine Nat.le_trans ?_ (Nat.mul_le_mul_right _ hge)
     rw [←Nat.pow_add]
     exact Nat.pow_le_pow_right (by decide) (by omega)
 · rw [Nat.div_lt_iff_lt_mul (Nat.two_pow_pos _),Nat.shiftLeft_eq,Nat.mul_comm 2,←Nat.pow_succ,←Nat.pow_add]
   refine Nat.lt_of_lt_of_le (Nat.mul_lt_mul_of_pos_right hlt (Nat.two_pow_pos _)) ?_
   rw [←Nat.pow_add]
   exact Nat.pow_le_pow_right (by decide) (by omega)
def val (r:Nat):Nat:=if r<8388608 then r else (8388608+r % 8388608)*2 ^ (r / 8388608-1)
theorem val_succ (r:Nat):val r<val (r+1):=by
 unfold val
 by_cases h1:r+1<8388608
 · rw [if_pos (by omega),if_pos h1];omega
 by_cases h2:r<8388608
 · have:r=8388607:=by omega
   subst this
   decide
 rw [if_neg h2,if_neg h1]
 by_cases h3:r % 8388608+1<8388608
 · rw [show (r+1) / 8388608=r / 8388608 by omega,show (r+1) % 8388608=r % 8388608+1 by omega]
   exact Nat.mul_lt_mul_of_pos_right (by omega) (Nat.two_pow_pos _)
 · rw [show (r+1) / 8388608=r / 8388608+1 by omega,show (r+1) % 8388608=0 by omega]
   have hq:r / 8388608+1-1=r / 8388608-1+1:=by omega
   rw [hq,Nat.pow_succ,Nat.mul_comm (2 ^ _) 2,←Nat.mul_assoc]
   exact Nat.mul_lt_mul_of_pos_right (by omega) (Nat.two_pow_pos _)
theorem val_lt {r s:Nat} (h:r<s):val r<val s:=by
 obtain ⟨k,rfl⟩:∃ k,s=r+1+k:=⟨s-(r+1),by omega⟩
 clear h
 induction k with
 |zero=>exact val_succ r
 |succ k ih=>exact Nat.lt_trans ih (val_succ _)
theorem val_lt_iff (r s:Nat):val r<val s↔r<s:=by
 refine ⟨fun h=>?_,val_lt⟩
 apply Nat.lt_of_not_le
 intro hge
 rcases Nat.lt_or_eq_of_le hge with h'|h'
 · have:=val_lt h';omega
 · subst h';omega
theorem val_inj {r s:Nat} (h:val r=val s):r=s:=by
 rcases Nat.lt_trichotomy r s with h'|h'|h'
 · have:=val_lt h';omega
 · exact h'
 · have:=val_lt h';omega
def key (a:Nat):Int:=if a<2147483648 then (a:Int) else -((a % 2147483648:Nat):Int)
def sval (a:Nat):Int:=if a / 2147483648 % 2 == 1 then -((val (a % 2147483648):Nat):Int) else ((val (a % 2147483648):Nat):Int)
theorem cmp_iff {x y x' y':Int} (h1:x<y↔x'<y') (h2:x=y↔x'=y'):compare x y=compare x' y':=by
 simp only [compare,compareOfLessAndEq]
 by_cases a:x<y
 · rw [if_pos a,if_pos (h1.1 a)]
 · rw [if_neg a,if_neg (fun h=>a (h1.2 h))]
   by_cases b:x=y
   · rw [if_pos b,if_pos (h2.1 b)]
   · rw [if_neg b,if_neg (fun h=>b (h2.2 h))]
theorem key_neg {a:Nat} (h:2147483648≤a):key a = -((a % 2147483648:Nat):Int):=by unfold key;rw [if_neg (by omega)]
theorem key_pos {a:Nat} (h:a<2147483648):key a=(a:Int):=by unfold key;rw [if_pos h]
theorem sval_neg {a:Nat} (h:2147483648≤a) (h':a<4294967296):sval a = -((val (a % 2147483648):Nat):Int):=by
 unfold sval;rw [show a / 2147483648 % 2=1 by omega];rfl
theorem sval_pos {a:Nat} (h:a<2147483648):sval a=((val (a % 2147483648):Nat):Int):=by
 unfold sval;rw [show a / 2147483648 % 2=0 by omega];rfl
theorem sval_key (a b:Nat) (ha:a<4294967296) (hb:b<4294967296):(sval a<sval b↔key a<key b)∧(sval a=sval b↔key a=key b):=by
 have m1:=val_lt_iff (a % 2147483648) (b % 2147483648)
 have m2:=val_lt_iff (b % 2147483648) (a % 2147483648)
 have m3:val (a % 2147483648)=val (b % 2147483648)↔a % 2147483648=b % 2147483648:=⟨val_inj,fun h=>by rw [h]⟩
 have z0:val 0=0:=rfl
 have m4:=val_lt_iff 0 (a % 2147483648)
 have m5:=val_lt_iff 0 (b % 2147483648)
 rw [z0] at m4 m5
 by_cases h1:2147483648≤a <;> by_cases h2:2147483648≤b
 · rw [sval_neg h1 ha,sval_neg h2 hb,key_neg h1,key_neg h2];omega
 · rw [sval_neg h1 ha,sval_pos (by omega),key_neg h1,key_pos (by omega)];omega
 · rw [sval_pos (by omega),sval_neg h2 hb,key_pos (by omega),key_neg h2];omega
 · rw [sval_pos (by omega),sval_pos (by omega),key_pos (by omega),key_pos (by omega)];omega
theorem read_fin (a:Nat) (h:a % 2147483648<2139095040):∃ m:Nat,∃ k:Nat,Ieee.single.read a=.number (a / 2147483648 % 2 == 1) m (-149+(k:Int))∧m*2 ^ k=val (a % 2147483648)∧m<16777216∧k≤253∧(m<8388608→k=0):=by
 rw [read_single]
 unfold val
 split
 · exact ⟨a % 2147483648,0,by simp,by simp,by omega,by omega,fun _=>rfl⟩
 · exact ⟨_,_,rfl,rfl,by omega,by omega,fun h=>by omega⟩
theorem signed_mul (s:Bool) (m u k:Nat):Ieee.signed s m u*(2 ^ k:Nat)=Ieee.signed s m (u+k):=by
 unfold Ieee.signed
 simp only [Nat.shiftLeft_eq,Nat.pow_add]
 cases s <;> simp [Int.natCast_mul,Int.neg_mul,Int.mul_assoc]
theorem signed_val (s:Bool) (m k:Nat):Ieee.signed s m k=if s then -((m*2 ^ k:Nat):Int) else ((m*2 ^ k:Nat):Int):=by
 unfold Ieee.signed
 rw [Nat.shiftLeft_eq]
theorem order_fin (a b:Nat) (ha:a % 2147483648<2139095040) (hb:b % 2147483648<2139095040):Ieee.single.order a b=some (compare (sval a) (sval b)):=by
 obtain ⟨m,k,e1,v1,-⟩:=read_fin a ha
 obtain ⟨n,l,e2,v2,-⟩:=read_fin b hb
 unfold Ieee.Format.order
 rw [e1,e2]
 simp only [Ieee.Datum.order]
 congr 1
 unfold sval
 rw [←v1,←v2,←signed_val,←signed_val]
 generalize hq:min k l=q
 have h1:(-149+(k:Int)-min (-149+(k:Int)) (-149+(l:Int))).toNat=k-q:=by omega
 have h2:(-149+(l:Int)-min (-149+(k:Int)) (-149+(l:Int))).toNat=l-q:=by omega
 rw [h1,h2]
 have s1:=signed_mul (a / 2147483648 % 2 == 1) m (k-q) q
 have s2:=signed_mul (b / 2147483648 % 2 == 1) n (l-q) q
 rw [show k-q+q=k by omega] at s1
 rw [show l-q+q=l by omega] at s2
 rw [←s1,←s2]
 have hp:(0:Int)<(2 ^ q:Nat):=by have:=Nat.two_pow_pos q;omega
 generalize ((2 ^ q:Nat):Int)=c at hp
 refine cmp_iff ⟨fun h=>Int.mul_lt_mul_of_pos_right h hp,fun h=>Int.lt_of_mul_lt_mul_right h (Int.le_of_lt hp)⟩ ⟨fun h=>by rw [h],fun h=>Int.eq_of_mul_eq_mul_right (Int.ne_of_gt hp) h⟩
theorem order_key (a b:Nat) (ha:a<4294967296) (hb:b<4294967296) (oa:ok a=true) (ob:ok b=true):Ieee.single.order a b=some (compare (key a) (key b)):=by
 have ha':a % 2147483648≤2139095040:=by simpa [ok] using oa
 have hb':b % 2147483648≤2139095040:=by simpa [ok] using ob
 have hinf:∀ x:Nat,x % 2147483648=2139095040→Ieee.single.read x=.infinity (x / 2147483648 % 2 == 1):=by
   intro x hx
   rw [read_single,if_neg (by omega),if_neg (by omega),if_pos hx]
 by_cases fa:a % 2147483648<2139095040 <;> by_cases fb:b % 2147483648<2139095040
 · rw [order_fin a b fa fb]
   have:=sval_key a b ha hb
   rw [cmp_iff this.1 this.2]
 · obtain ⟨m,k,e1,-⟩:=read_fin a fa
   have e2:=hinf b (by omega)
   unfold Ieee.Format.order
   rw [e1,e2]
   simp only [Ieee.Datum.order]
   congr 1
   have:b=2139095040∨b=4286578688:=by omega
   rcases this with rfl|rfl
   · have:key a<key 2139095040:=by unfold key;split <;> split <;> omega
     simp [compare,compareOfLessAndEq,this]
   · have:key 4286578688<key a:=by unfold key;split <;> split <;> omega
     rw [show (4286578688 / 2147483648 % 2 == 1)=true from rfl]
     simp only [if_true,compare,compareOfLessAndEq]
     rw [if_neg (by omega),if_neg (by omega)]
 · obtain ⟨m,k,e1,-⟩:=read_fin b fb
   have e2:=hinf a (by omega)
   unfold Ieee.Format.order
   rw [e1,e2]
   simp only [Ieee.Datum.order]
   congr 1
   have:a=2139095040∨a=4286578688:=by omega
   rcases this with rfl|rfl
   · have:key b<key 2139095040:=by unfold key;split <;> split <;> omega
     rw [show (2139095040 / 2147483648 % 2 == 1)=false from rfl]
     simp only [Bool.false_eq_true,if_false,compare,compareOfLessAndEq]
     rw [if_neg (by omega),if_neg (by omega)]
   · have:key 4286578688<key b:=by unfold key;split <;> split <;> omega
     rw [show (4286578688 / 2147483648 % 2 == 1)=true from rfl]
     simp only [if_true,compare,compareOfLessAndEq]
     rw [if_pos this]
 · have e1:=hinf a (by omega)
   have e2:=hinf b (by omega)
   unfold Ieee.Format.order
   rw [e1,e2]
   have h1:a=2139095040∨a=4286578688:=by omega
   have h2:b=2139095040∨b=4286578688:=by omega
   rcases h1 with rfl|rfl <;> rcases h2 with rfl|rfl <;> decide +kernel
theorem fstand_key (a b:Nat) (ha:a<4294967296) (hb:b<4294967296) (oa:ok a=true) (ob:ok b=true):fstand a b=if key a<key b then 2 else if key a=key b then 3 else 4:=by
 unfold fstand
 rw [order_key a b ha hb oa ob]
 simp only [compare,compareOfLessAndEq]
 by_cases h1:key a<key b
 · rw [if_pos h1,if_pos h1]
 · rw [if_neg h1,if_neg h1]
   by_cases h2:key a=key b
   · rw [if_pos h2,if_pos h2]
   · rw [if_neg h2,if_neg h2]
theorem ok_mod {a:Nat} (h:ok a=true):a % 2147483648≤2139095040:=by simpa [ok] using h
theorem nearest_word (neg:Bool) (mag:Nat) (place:Int):Ieee.single.write (.number neg mag place)=Ieee.single.word neg (min (rg Ieee.single mag place) 2139095040):=nearest_rg _ _ _ _
def sn (a:Nat):Bool:=a / 2147483648 % 2 == 1
theorem cutz_eq (neg:Bool) (n drop:Nat):Ieee.Toward.zero.cut neg n drop=n / 2 ^ drop:=by
 unfold Ieee.Toward.cut
 dsimp only
 rw [Nat.shiftLeft_eq,Nat.one_mul]
 by_cases h:drop≤n.log2+2
 · rw [Nat.min_eq_left h];rfl
 · rw [Nat.min_eq_right (by omega)]
   have h1:n<2 ^ (n.log2+2):=Nat.lt_of_lt_of_le Nat.lt_log2_self (Nat.pow_le_pow_right (by decide) (by omega))
   have h3:2 ^ (n.log2+2)≤2 ^ drop:=Nat.pow_le_pow_right (by decide) (by omega)
   rw [Nat.div_eq_of_lt h1,Nat.div_eq_of_lt (by omega)];rfl
theorem fof_lt (n:Int):fof n<4294967296:=write_lt32 _
abbrev ob:Obj:=.cells #[.int .i64 24,.int .i64 (-149),.int .i64 104] 140
abbrev oz:Obj:=.cells #[.int .u8 0,.bool false,.int .u64 0,.int .i64 0] 133
def hdV (m:Bool) (n:Nat) (p:Int):Value:=if 104<p then .agg #[.int .u8 2,.bool m,.int .u64 0,.int .i64 0] else .agg #[.int .u8 3,.bool m,.int .u64 n,.int .i64 p]
theorem held_any (m:Bool) (n:Nat) (p:Int) (w:World) :
   Calls Tryz.prog 133 #[.agg #[.int .i64 24,.int .i64 (-149),.int .i64 104],.bool m,.int .u64 n,.int .i64 p] w fun e w'=>e=.returned (hdV m n p)∧Below w.heap.size w w':=by
 by_cases h:104<p
 · have HV:Hid (hdV m n p=.agg #[.int .u8 2,.bool m,.int .u64 0,.int .i64 0]):=by rw [Hid,hdV,if_pos h]
   go_enter Tryz.func133,Tryz.ntmps133
   go_wp2_with (go_at_call 145;refine (vendless_any _ _).mono ?_;rintro e wq ⟨rfl,hq⟩;subst wq)
   refine bodyPost_ret (v:=.agg #[.int .u8 2,.bool m,.int .u64 0,.int .i64 0]) (by simp [results,Tryz.f133,go_sem]) rfl ?_
   exact ⟨by rw [HV.out],by repeat (first|exact Below.refl _ _|refine bel ?_|refine Below.drew ?_)⟩
 · have HV:Hid (hdV m n p=.agg #[.int .u8 3,.bool m,.int .u64 n,.int .i64 p]):=by rw [Hid,hdV,if_neg h]
   have g1:decide (104<p)=false:=decide_eq_false h
   go_enter Tryz.func133,Tryz.ntmps133
   go_wp2
   refine bodyPost_ret (v:=.agg #[.int .u8 3,.bool m,.int .u64 n,.int .i64 p]) (by simp [results,Tryz.f133,go_sem]) rfl ?_
   exact ⟨by rw [HV.out],by repeat (first|exact Below.refl _ _|refine bel ?_|refine Below.drew ?_)⟩
@[go_sem] theorem bV3 (s:Int) (m:Bool) (p:Int) (w:World):(Instr.build 133 #[(0,.int .u8 s),(1,.bool m),(3,.int .i64 p)]).run Tryz.prog w=.ok (.agg #[.int .u8 s,.bool m,.int .u64 0,.int .i64 p]) w:=run_build w 133 _ _ (by kernel_rfl)
theorem nought_any (m:Bool) (w:World) :
   Calls Tryz.prog 131 #[.agg #[.int .i64 24,.int .i64 (-149),.int .i64 104],.bool m] w fun e w'=>e=.returned (.agg #[.int .u8 3,.bool m,.int .u64 0,.int .i64 (-149)])∧Below w.heap.size w w':=by
 go_enter Tryz.func131,Tryz.ntmps131
 go_wp2
 refine bodyPost_ret (v:=.agg #[.int .u8 3,.bool m,.int .u64 0,.int .i64 (-149)]) (by simp [results,Tryz.f131,go_sem]) rfl ?_
 exact ⟨rfl,by repeat (first|exact Below.refl _ _|refine bel ?_|refine Below.drew ?_)⟩
theorem kF {w W:World} (h:Below ((w.alloc ob).alloc oz).heap.size ((w.alloc ob).alloc oz) W) :
   W.cell? ⟨w.heap.size,0,none⟩=some (.int .i64 24)∧W.cell? ⟨w.heap.size,1,none⟩=some (.int .i64 (-149))∧W.cell? ⟨w.heap.size,2,none⟩=some (.int .i64 104):=by
 refine ⟨(h.cell (p:=⟨w.heap.size,0,none⟩) (by simp;omega)).trans (by simp),(h.cell (p:=⟨w.heap.size,1,none⟩) (by simp;omega)).trans (by simp),(h.cell (p:=⟨w.heap.size,2,none⟩) (by simp;omega)).trans (by simp)⟩
theorem kR {w W:World} (h:Below ((w.alloc ob).alloc oz).heap.size ((w.alloc ob).alloc oz) W) :
   W.cell? ⟨w.heap.size+1,0,none⟩=some (.int .u8 0)∧W.cell? ⟨w.heap.size+1,1,none⟩=some (.bool false)∧W.cell? ⟨w.heap.size+1,2,none⟩=some (.int .u64 0)∧W.cell? ⟨w.heap.size+1,3,none⟩=some (.int .i64 0):=by
 refine ⟨(h.cell (p:=⟨w.heap.size+1,0,none⟩) (by simp)).trans (by simp),(h.cell (p:=⟨w.heap.size+1,1,none⟩) (by simp)).trans (by simp),(h.cell (p:=⟨w.heap.size+1,2,none⟩) (by simp)).trans (by simp),(h.cell (p:=⟨w.heap.size+1,3,none⟩) (by simp)).trans (by simp)⟩
theorem kA {w W:World} (h:Below ((w.alloc ob).alloc oz).heap.size ((w.alloc ob).alloc oz) W) :
   W.cell? ⟨w.heap.size+1,0,none⟩=some (.int .u8 0)∧W.cell? ⟨w.heap.size+1,1,none⟩=some (.bool false)∧W.cell? ⟨w.heap.size+1,2,none⟩=some (.int .u64 0)∧W.cell? ⟨w.heap.size+1,3,none⟩=some (.int .i64 0)∧W.frozen? ⟨w.heap.size+1,0,none⟩=false∧W.frozen? ⟨w.heap.size+1,1,none⟩=false∧W.frozen? ⟨w.heap.size+1,2,none⟩=false∧W.frozen? ⟨w.heap.size+1,3,none⟩=false:=
 ⟨(kR h).1,(kR h).2.1,(kR h).2.2.1,(kR h).2.2.2,(h.frozen (p:=⟨w.heap.size+1,0,none⟩) (by simp)).trans (by simp),(h.frozen (p:=⟨w.heap.size+1,1,none⟩) (by simp)).trans (by simp),(h.frozen (p:=⟨w.heap.size+1,2,none⟩) (by simp)).trans (by simp),(h.frozen (p:=⟨w.heap.size+1,3,none⟩) (by simp)).trans (by simp)⟩
theorem kS {w W:World} {a b c d:Value} (h:Below ((w.alloc ob).alloc oz).heap.size ((w.alloc ob).alloc oz) W) :
   ((((W.setCell ⟨w.heap.size+1,0,none⟩ a).setCell ⟨w.heap.size+1,1,none⟩ b).setCell ⟨w.heap.size+1,2,none⟩ c).setCell ⟨w.heap.size+1,3,none⟩ d).cell? ⟨w.heap.size,0,none⟩=some (.int .i64 24)∧((((W.setCell ⟨w.heap.size+1,0,none⟩ a).setCell ⟨w.heap.size+1,1,none⟩ b).setCell ⟨w.heap.size+1,2,none⟩ c).setCell ⟨w.heap.size+1,3,none⟩ d).cell? ⟨w.heap.size,1,none⟩=some (.int .i64 (-149))∧((((W.setCell ⟨w.heap.size+1,0,none⟩ a).setCell ⟨w.heap.size+1,1,none⟩ b).setCell ⟨w.heap.size+1,2,none⟩ c).setCell ⟨w.heap.size+1,3,none⟩ d).cell? ⟨w.heap.size,2,none⟩=some (.int .i64 104):=by
 obtain ⟨h0,h1,h2⟩:=kF h
 refine ⟨?_,?_,?_⟩
 all_goals rw [World.cell?_setCell_other _ _ _ _ (by simp),World.cell?_setCell_other _ _ _ _ (by simp),World.cell?_setCell_other _ _ _ _ (by simp),World.cell?_setCell_other _ _ _ _ (by simp)]
 · exact h0
 · exact h1
 · exact h2
theorem kB {w W:World} {a b c d:Value} (h:Below ((w.alloc ob).alloc oz).heap.size ((w.alloc ob).alloc oz) W) :
   Below w.heap.size w ((((W.setCell ⟨w.heap.size+1,0,none⟩ a).setCell ⟨w.heap.size+1,1,none⟩ b).setCell ⟨w.heap.size+1,2,none⟩ c).setCell ⟨w.heap.size+1,3,none⟩ d):=by
 have h1:Below w.heap.size w W:=(bel (bel (Below.refl _ _))).trans (h.mono (by simp;omega))
 exact (((h1.setCell (p:=⟨w.heap.size+1,0,none⟩) (Nat.le_succ _) a).setCell (p:=⟨w.heap.size+1,1,none⟩) (Nat.le_succ _) b).setCell (p:=⟨w.heap.size+1,2,none⟩) (Nat.le_succ _) c).setCell (p:=⟨w.heap.size+1,3,none⟩) (Nat.le_succ _) d
def kk (N:Nat) (P:Int):Int:=max (P+nbits N-24) (-149)
theorem bt2 {a W w1:World} (h:Below W.heap.size W w1) (h':Below a.heap.size a W):Below a.heap.size a w1:=h'.trans (h.mono h'.size)
theorem bt3 {a w1:World} {n:Nat} (h:Below a.heap.size a w1):Below a.heap.size a (w1.drewN n):=h.trans ⟨rfl,rfl,rfl,Nat.le_refl _,fun _ _=>rfl⟩
theorem NatV.dest {w:World} {v:Value} {x:Nat} (h:NatV w v x):∃ ao cap zs,v=.slice ao (List.length zs) cap∧List.length zs≤cap∧(ao=none→cap=0)∧nv zs=x∧Norm zs∧Words zs∧ReadsU w ao zs w.heap.size:=h
theorem small_len {zs:List Nat} (hN:Norm zs) {x:Nat} (h:nv zs=x) (hx:x<18446744073709551616):zs.length≤2:=norm_len hN 2 (by rw [h];exact hx)
theorem rnd1a (m:Bool) (ao:Option Addr) (cap:Nat) (zs:List Nat) (P:Int) (nb X M:Nat) (w:World) (hl:zs.length≤100) (hr:ReadsU w ao zs w.heap.size) (hW:Words zs) (hN:Norm zs) (hz:zs.length≠0) (hnb:nbits (nv zs)=nb) (hnl:nb≤4000) (hP : -5000≤P) (hP2:P≤5000) (hA:P+nb-24 < -149) (hX:P - -149=X) (hM:nv zs*2 ^ X=M) (hMl:M<18446744073709551616) :
   Calls Tryz.prog 105 #[.agg #[.int .i64 24,.int .i64 (-149),.int .i64 104],.bool m,.slice ao zs.length cap,.int .i64 P,.bool false] w fun e w'=>e=.returned (hdV m M (-149))∧Below w.heap.size w w':=by
 have hz':((zs.length:Int) == 0)=false:=by rw [beq_eq_false_iff_ne];omega
 have sz:=fun W hrW=>size_any ao cap zs W (by omega) hrW hW hN
 rw [hnb] at sz
 have HM:Hid (nv zs*2 ^ X=M):=hM
 have hX5:X≤10000:=by omega
 have hPX:P+149=X:=by omega
 have hPl:(-149:Int)≤P:=by omega
 have HXw:Hid (IntKind.i64.wrap (X:Int)=X):=by rw [Hid,IntKind.wrap_i64];omega
 have HD:Hid (hdV m M (-149)=.agg #[.int .u8 3,.bool m,.int .u64 M,.int .i64 (-149)]):=by rw [Hid,hdV,if_neg (by omega)]
 clear hM hX
 go_enter Tryz.func105,Tryz.ntmps105
 go_wp2
 have hr2:ReadsU ((w.alloc ob).alloc oz) ao zs ((w.alloc ob).alloc oz).heap.size:=(hr.below (bel (bel (Below.refl _ _)))).mono (by simp;omega)
 go_quiet (((go_at_call 132);exact Calls.quiet_of_same (sz _ hr2)))
 go_wp2
 go_region_held3 (fun w'=>w'.cell? ⟨w.heap.size,0,none⟩=some (.int .i64 24)∧w'.cell? ⟨w.heap.size,1,none⟩=some (.int .i64 (-149))∧w'.cell? ⟨w.heap.size,2,none⟩=some (.int .i64 104)) ((first|((try dsimp only);with_reducible refine kS ?_;(repeat (first|exact Below.refl _ _|with_reducible first|refine bel ?_|refine Below.drew ?_|refine bt3 ?_|with_reducible refine bt2 hb1 ?_|with_reducible refine bt2 hb2 ?_));done)|(refine kF ?_;(repeat (first|exact Below.refl _ _|with_reducible first|refine bel ?_|refine Below.drew ?_|refine bt3 ?_|with_reducible refine bt2 hb1 ?_|with_reducible refine bt2 hb2 ?_));done))) (first
   |(go_at_call 130;rw [HXw.out];with_reducible refine (up_any ao cap zs X _ (by omega) (by omega) ?_ hW).mono ?_;(exact (hr2.below (by apply_rules [Below.refl,bel,Below.drew,bt3])).mono (by simp));rintro e w1 ⟨⟨v1,rfl,hv1⟩,hb1⟩;obtain ⟨ao1,cap1,zs1,rfl,hc1,hn1,hval1,hN1,hW1,hr1⟩:=hv1.dest)
   |(go_at_call 108;with_reducible refine (low_any ao1 cap1 zs1 _ (by have:=small_len hN1 (hval1.trans HM.out) hMl;omega) ?_ hW1).mono ?_;(exact (hr1.below (by apply_rules [Below.refl,bel,Below.drew,bt3])).mono (by simp));rintro e wq ⟨rfl,hq⟩;rw [hval1,HM.out,Nat.mod_eq_of_lt hMl];subst wq)
   |(go_at_call 133;with_reducible refine (held_any m M (-149) _).mono ?_;rintro e w2 ⟨rfl,hb2⟩;rw [HD.out];obtain ⟨r0,r1,r2,r3,q0,q1,q2,q3⟩:=kA (w:=w) (W:=w2) (by repeat (first|exact Below.refl _ _|with_reducible first|refine bel ?_|refine Below.drew ?_|refine bt3 ?_|with_reducible refine bt2 hb1 ?_|with_reducible refine bt2 hb2 ?_))))
 go_wp2
 refine bodyPost_ret (v:=.agg #[.int .u8 3,.bool m,.int .u64 M,.int .i64 (-149)]) (by simp [results,Tryz.f105,go_sem,r0,r1,r2,r3]) rfl ?_
 exact ⟨by rw [HD.out],kB (by repeat (first|exact Below.refl _ _|with_reducible first|refine bel ?_|refine Below.drew ?_|refine bt3 ?_|with_reducible refine bt2 hb1 ?_|with_reducible refine bt2 hb2 ?_))⟩
end Go.Proofs.YtibhlcfligfhdaaGreat
