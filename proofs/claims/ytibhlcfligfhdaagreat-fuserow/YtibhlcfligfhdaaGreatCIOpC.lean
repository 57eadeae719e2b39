import Derived.Test.YtibhlcfligfhdaaGreatCIBas
import Derived.Test.YtibhlcfligfhdaaGreatCZDq
import Derived.Deep.SlicePairs
namespace Go.Proofs.YtibhlcfligfhdaaGreat
open Go.ChangeShapes Go.WideShapes Go.ChangeAt Go.RowKit
theorem Tryz.cellsI2:Tryz.prog.cellsOf 37=2:=by kernel_rfl
theorem Tryz.cellsO1:Tryz.prog.cellsOf 26=1:=by kernel_rfl
theorem Tryz.cellsD1:Tryz.prog.cellsOf 23=1:=by kernel_rfl
theorem Tryz.bytesI:Tryz.prog.bytesOf 37=8:=by kernel_rfl
theorem code_open {H:Type} {enc:TypeId × Value→H} {W:World} {a0:Option Addr} {len cap:Nat} {d:DataW H} {p:List MemPlace}
   (h:DataW.Trod enc Tryz.prog W 0 (fun _=>true) true 22 (.slice a0 len cap) d p) (hlt:∀ x∈p,x.block<W.heap.size) :
   ∃ L:List (Nat × Nat),L.length=len∧Wfc L∧CRd W a0 L W.heap.size∧(d=.nil∧L=[]∨∃ l sp,d=.slice l sp∧l.length=L.length∧∀ x∈l,1≤Rows.uptoBulk x):=by
 obtain ⟨fuel,hf⟩:=h
 rcases Go.Deep.open_slice_pairs Tryz.underlying22 Tryz.underlying37 Tryz.cellsI2 rfl rfl Tryz.cellsO1 Tryz.cellsD1 hf with ⟨hcs,hx⟩|⟨a,len',cap',m,n,V0,V1,D0,D1,P0,P1,hcs,_,hl,hm,hz,hx,hcell⟩
 · simp only [Prod.mk.injEq] at hx
   simp [Value.cells] at hcs
   obtain ⟨rfl,rfl,rfl⟩:=hcs
   exact ⟨[],rfl,fun p hp=>by simp at hp,fun hp=>by simp at hp,.inl ⟨hx.1,rfl⟩⟩
 · simp only [Prod.mk.injEq] at hx
   obtain ⟨rfl,rfl⟩:=hx
   simp [Value.cells] at hcs
   obtain ⟨rfl,rfl,rfl⟩:=hcs
   simp only [if_true] at hz
   subst hz
   have each:∀ i,i<len→∃ q:Nat × Nat,V0 i=.int .u8 q.1∧V1 i=.int .u32 q.2∧q.1<256∧q.2<4294967296:=by
     intro i hi
     obtain ⟨_,_,g0,g1⟩:=hcell i (by omega)
     obtain ⟨s,e0,_,w0⟩:=DataW.trod_int Tryz.underlying26 g0
     obtain ⟨u,e1,_,w1⟩:=DataW.trod_int Tryz.underlying23 g1
     simp at e0 e1
     have h0:=byte_wf w0
     have h1:=word_wf w1
     exact ⟨(s.toNat,u.toNat),by rw [e0];simp only [];rw [Int.toNat_of_nonneg h0.1],by rw [e1];simp only [];rw [Int.toNat_of_nonneg h1.1],by simp only [];omega,by simp only [];omega⟩
   obtain ⟨f,hfx⟩:∃ f:Nat→Nat × Nat,∀ i,i<len→V0 i=.int .u8 (f i).1∧V1 i=.int .u32 (f i).2∧(f i).1<256∧(f i).2<4294967296:=
     ⟨fun i=>if hi:i<len then (each i hi).choose else (0,0),fun i hi=>by simp only [hi,dite_true];exact (each i hi).choose_spec⟩
   have hgd:∀ j,j<len→((List.range len).map f).getD j (0,0)=f j:=fun j hj=>by simp [hj]
   refine ⟨(List.range len).map f,by simp,?_,?_,.inr ⟨_,_,rfl,by simp,?_⟩⟩
   · intro p hp
     obtain ⟨i,hi,rfl⟩:=List.mem_map.1 hp
     exact (hfx i (List.mem_range.1 hi)).2.2
   · intro hpos
     simp at hpos
     obtain ⟨b,off,spot⟩:=a
     have hspot:spot=none:=by simpa [Addr.add] using World.cell?_spot (hcell 0 (by omega)).1
     subst hspot
     have hbW:b<W.heap.size:=hlt (.cell b off) (List.mem_append_left _ (MemPlace.mem_row.2 ⟨0,by omega,by simp⟩))
     refine ⟨b,off,rfl,hbW,fun j hj=>?_⟩
     simp at hj
     obtain ⟨c0,c1,_,_⟩:=hcell j (by omega)
     obtain ⟨e0,e1,_,_⟩:=hfx j hj
     rw [add_plain] at c0 c1
     rw [hgd j hj]
     exact ⟨by rw [c0,e0],by rw [Nat.add_assoc,c1,e1]⟩
   · intro x hx
     obtain ⟨i,_,rfl⟩:=List.mem_map.1 hx
     simp only [Rows.uptoBulk,Rows.uptoBulkAll]
     omega
end Go.Proofs.YtibhlcfligfhdaaGreat
