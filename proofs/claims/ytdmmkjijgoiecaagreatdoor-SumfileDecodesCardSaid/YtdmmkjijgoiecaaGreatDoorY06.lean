import Derived.Sort.OwnSorted
import Derived.Test.YtdmmkjijgoiecaaGreatDoorY04
import Derived.Test.YtdmmkjijgoiecaaGreatDoorY05
set_option linter.all false
set_option maxHeartbeats 4000000
namespace Go.Proofs.YtdmmkjijgoiecaaGreatDoor
namespace inn
open RowKit Go.Sort mem
section
variable {α:Type} [Inhabited α] (enc:α→Value)
theorem heap_put{w:World}{g n:Nat}{os:Array Obj}{J:Array Value}{e:TypeId}{fr:Nat×Nat}(d:Array α)(hb:w.heap[g]? = some (.cells J e fr)) :
 (grow (putRow enc (Sort.ahead w n) g 0 d) os).heap[g]? = some (.cells (putCells enc 0 d J) e fr):=by
 have Y:g<w.heap.size:=(bB.1 hb).1;rw[heap_grow_old _ _ (by simpa using Y)];simp[putRow,mapBlock,Sort.ahead,Array.getElem?_modify,hb,onCells]
theorem aHm(w:World)(n g off:Nat)(d:Array α)(os:Array Obj):Fr [g] w (grow (putRow enc (Sort.ahead w n) g off d) os):=by
 refine⟨rfl,rfl,rfl,by simp[grow],fun k Y J=>?_⟩;rw[heap_grow_old _ _ (by simpa using Y)];have:g≠k:=fun e=>J (by rw[e];simp)
 simp[putRow,mapBlock,Sort.ahead,Array.getElem?_modify,this]
theorem aId(J:Array Value)(ts:List α)(h:ts.length≤J.size):(putCells enc 0 ts.toArray J).toList.take ts.length=ts.map enc:=by
 apply List.ext_getElem?
 intro j;by_cases Y:j<ts.length
 ·rw[List.getElem?_take_of_lt Y,Array.getElem?_toList]
  simp[putCells,Y,show j<J.size by omega]
 ·rw[List.getElem?_take_eq_none (by omega),List.getElem?_eq_none (by simp;omega)]
theorem holds_of{w:World}{g:Nat}{J:Array Value}{e:TypeId}{Y:List α}(hb:w.heap[g]? = some (.cells J e (0,0)))(ht:J.toList.take Y.length=Y.map enc):Holds enc w g 0 Y.toArray:=by
 intro j hj;have a0:j<Y.length:=by simpa using hj
 refine⟨?_,by simp[World.frozen?,hb]⟩;have h1:(J.toList.take Y.length)[j]? = (Y.map enc)[j]?:=by rw[ht]
 rw[List.getElem?_take_of_lt a0]at h1;simp only[World.cell?,hb,Nat.zero_add];simp only[Option.isSome_none,Bool.false_eq_true,if_false];rw[←Array.getElem?_toList,h1];simp[a0]
end
section
variable {α:Type} (enc:α→Value)
structure CB(e:TypeId)(w:World)(g cap:Nat)(xs:List α):Prop where
 ex:∃cur,w.heap[g]? = some (.cells cur e (0,0))∧cur.size=cap∧cur.toList.take xs.length=xs.map enc
 le:xs.length≤cap
 max:cap≤maxLen
theorem CB.lt{e:TypeId}{w:World}{g cap:Nat}{xs:List α}(h:CB enc e w g cap xs):g<w.heap.size:=by
 obtain⟨J,hb,_⟩:=h.ex;exact(bB.1 hb).1
theorem CB.kept{e:TypeId}{w w':World}{g cap:Nat}{xs:List α}(h:CB enc e w g cap xs)(hb:w'.heap[g]? = w.heap[g]?):CB enc e w' g cap xs:=by
 obtain⟨J,h1,h2,Y⟩:=h.ex;exact⟨⟨J,hb.trans h1,h2,Y⟩,h.le,h.max⟩
theorem CB.cut{e:TypeId}{w:World}{g cap:Nat}{xs ys:List α}(h:CB enc e w g cap (xs++ys)):CB enc e w g cap xs:=by
 obtain⟨J,h1,h2,Y⟩:=h.ex;have hl:=h.le;rw[aF]at hl;refine⟨⟨J,h1,h2,?_⟩,by omega,h.max⟩;have:=congrArg (List.take xs.length) Y;rw[List.take_take,aF,Nat.min_eq_left (by omega),List.map_append,List.take_left' (by simp)]at this;exact this
theorem aG3{e:TypeId}{w:World}{B n:Nat}{v:Value}{xs:List α}(h:w.ownsRow B e 1 v n (xs.map enc))(hv:v≠.slice none 0 0):∃g cap,v=.slice (some ⟨g,0,none⟩) n cap∧B≤g∧CB enc e w g cap xs:=by
 obtain⟨h0,h | ⟨g,cap,J,rfl,hb,hh,h1,h2,h3,Y⟩⟩:=h
 ·exact absurd h.1 hv
 ·have hn:xs.length=n:=by simpa using h0
  refine⟨g,cap,rfl,hb,⟨J,hh,by omega,by rw[Nat.mul_one]at Y;rw[hn];exact Y⟩,by omega,h2⟩
end
section
variable {α:Type} [Inhabited α] (enc:α→Value)
theorem CB.holds{e:TypeId}{w:World}{g cap:Nat}{xs:List α}(h:CB enc e w g cap xs):Holds enc w g 0 xs.toArray:=by
 obtain⟨Y,hb,_,J⟩:=h.ex;exact holds_of enc hb J
theorem CB.cell{e:TypeId}{w:World}{g cap:Nat}{xs:List α}(h:CB enc e w g cap xs)(j:Nat)(J:j<xs.length):w.cell? ⟨g,j,none⟩=some (enc xs[j]):=by
 have:=(h.holds enc j (by simpa using J)).1
 simpa[J] using this
theorem CB.put{e:TypeId}{w:World}{g cap n:Nat}{xs ys:List α}{os:Array Obj}(h:CB enc e w g cap xs)(hl:ys.length=xs.length):CB enc e (grow (putRow enc (Sort.ahead w n) g 0 ys.toArray) os) g cap ys:=by
 obtain⟨J,h1,Y,h3⟩:=h.ex;refine⟨⟨_,heap_put enc _ h1,by simp[putCells,Y],aId enc J ys (by have:=h.le;omega)⟩,by have:=h.le;omega,h.max⟩
end
theorem aJW(w:World)(A:Option Addr)(c:Nat)(J:List (List UInt8))(h:Rd w A (J.map encStr))(hz:0<J.length)(a0:J.length≤1000000) :
 Calls Tryz.prog 182 #[.slice A J.length c] w fun e w'=>∃g cap,e=.returned (.slice (some ⟨g,0,none⟩) J.length cap)∧w.heap.size≤g∧CB encStr 9 w' g cap J∧Below w.heap.size w w':=by
 obtain⟨b,off,rfl,hl,hc⟩:=h (by simpa using hz)
 have K:=Tryz.slices_Clone_string b off J.length c (J.map fun l=>⟨l.toArray⟩) w (by simp) (by omega) (fun j hj=>by
  have Y:j<J.length:=by simpa using hj
  rw[hc j (by simpa using Y)]
  simp[Y,encStr])
 refine K.mono ?_;rintro e w' ⟨v,rfl,ho,hv,hb⟩;rw[bE (by simp),List.map_map]at ho;obtain⟨g,cap,rfl,h1,h2⟩:=aG3 encStr (xs:=J) (by exact ho) hv;exact⟨g,cap,rfl,h1,h2,hb⟩
theorem aLn(w:World)(g cap:Nat)(J:List (List UInt8))(h:CB encStr 9 w g cap J)(Y:J.length≤1000000) :
 Calls Tryz.prog 183 #[.slice (some ⟨g,0,none⟩) J.length cap] w fun e w'=>e=.returned (.tuple #[])∧CB encStr 9 w' g cap (J.mergeSort fun x y=>decide (x≤y))∧Fr [g] w w':=by
 refine(Tryz.slices_Sort_string g 0 cap J w (h.holds encStr) h.lt (by omega)).mono ?_;rintro e w' ⟨rfl,n,os,rfl⟩;exact⟨rfl,h.put encStr (by simp),aHm encStr _ _ _ _ _ _⟩
theorem aGN(w:World)(g cap:Nat)(J:List (List UInt8))(h:CB encStr 9 w g cap J)(a0:J.length≤1000000) :
 Calls Tryz.prog 184 #[.slice (some ⟨g,0,none⟩) J.length cap] w fun e w'=>e=.returned (.slice (some ⟨g,0,none⟩) (Lib.compact J).length cap)∧CB encStr 9 w' g cap (Lib.compact J)∧Fr [g] w w':=by
 refine(Tryz.slices_Compact_string g 0 cap J w (h.holds encStr) (by omega) h.le).mono ?_;rintro e w' ⟨rfl,q,rfl⟩;have hlen:=Lib.compact_length_le J;have h1:=h.put encStr (n:=q) (os:=#[]) (ys:=Lib.compact J++List.replicate (J.length-(Lib.compact J).length) []) (by simp;omega);have Y:=aHm encStr w q g 0 (Lib.compact J++List.replicate (J.length-(Lib.compact J).length) []).toArray #[];rw[grow_empty]at h1 Y;exact⟨rfl,h1.cut encStr,Y⟩
end inn
end Go.Proofs.YtdmmkjijgoiecaaGreatDoor
