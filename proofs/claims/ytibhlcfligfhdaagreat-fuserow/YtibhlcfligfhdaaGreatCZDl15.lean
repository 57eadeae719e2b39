import Derived.Test.YtibhlcfligfhdaaGreatCZDl14
import Derived.Test.YtibhlcfligfhdaaGreatCZDl15c
import Derived.Test.YtibhlcfligfhdaaGreatCZDl1542
import Derived.Test.YtibhlcfligfhdaaGreatCZDl1543
import Derived.Test.YtibhlcfligfhdaaGreatCZDl15op3
namespace Go.Proofs.YtibhlcfligfhdaaGreat
open Go.RowKit Go.WideShapes Go.Shelf
set_option maxRecDepth 100000
theorem dloc15_any (ao:Option Addr) (cap a e:Nat) (L:List (Nat × Nat)) (w:World) (hL:L.length≤140737488355328) (hae:a<e) (he:e≤L.length) (he32:e<4294967296) (hwf:Wfc L) (hr:CRd w ao L w.heap.size) :
   Calls Tryz.prog 46 #[.slice ao L.length cap,.int .i64 (a:Int),.int .i64 (e:Int),.agg (fzA ⟨a,e-a,15,0,0,0⟩)] w fun x w'=>LcP L a e 15 x∧Below w.heap.size w w':=by
 by_cases h9:(L.getD a (0,0)).1=9
 · by_cases hn:e<a+6
   · exact dloc15a_any ao cap a e L w hL hae he he32 hwf hr h9 (fun g hg=>by have:=((lc_15 g).1 hg).1;omega) hn
   by_cases hx:L.getD (a+1) (0,0)=L.getD a (0,0)
   · by_cases h2:(L.getD (a+2) (0,0)).1=31
     · by_cases h3:(L.getD (e-1) (0,0)).1=34
       · cases hd:divB (L.getD (e-2) (0,0)).1 with
         |false=>exact dloc15op3_any ao cap a e L w hL hae he he32 hwf hr h9 hn hx h2 h3 hd
         | true=>
           unfold divB at hd
           rcases of_decide_eq_true hd with h|h|h|h
           · exact dloc1542_any ao cap a e L w hL hae he he32 hwf hr h9 hn hx h2 h3 h
           · exact dloc1543_any ao cap a e L w hL hae he he32 hwf hr h9 hn hx h2 h3 h
           · exact dloc1544_any ao cap a e L w hL hae he he32 hwf hr h9 hn hx h2 h3 h
           · exact dloc1545_any ao cap a e L w hL hae he he32 hwf hr h9 hn hx h2 h3 h
       · exact dloc15d_any ao cap a e L w hL hae he he32 hwf hr h9 (fun g hg=>h3 ((lc_15 g).1 hg).2.2.2.2.1) hn hx h2 h3
     · exact dloc15c_any ao cap a e L w hL hae he he32 hwf hr h9 (fun g hg=>h2 ((lc_15 g).1 hg).2.2.2.1) hn hx h2
   · exact dloc15b_any ao cap a e L w hL hae he he32 hwf hr h9 (fun g hg=>hx ((lc_15 g).1 hg).2.2.1) hn hx
 · exact dlocN_any ao cap a e 15 L w hL hae he he32 hwf hr h9
end Go.Proofs.YtibhlcfligfhdaaGreat
