import Derived.Sort.OwnSorted
import Derived.Test.YtlkboeajkgbnaaaGreatDoorC09
import Derived.Test.YtlkboeajkgbnaaaGreatDoorC03
import Derived.Test.YtlkboeajkgbnaaaGreatDoorC19
set_option linter.all false
set_option maxHeartbeats 4000000
namespace Go.Proofs.YtlkboeajkgbnaaaGreatDoor
namespace inn
open RowKit Go.Sort mem
section
variable {α:Type} [Inhabited α] (enc:α→Value)
theorem heap_put{w:World}{g n:Nat}{os:Array Obj}{cur:Array Value}{e:TypeId}{fr:Nat×Nat}(d:Array α)(hb:w.heap[g]? = some (.cells cur e fr)) :
 (grow (putRow enc (Sort.ahead w n) g 0 d) os).heap[g]? = some (.cells (putCells enc 0 d cur) e fr):=by
 have hg:g<w.heap.size:=(Array.getElem?_eq_some_iff.1 hb).1;rw[heap_grow_old _ _ (by simpa using hg)];simp[putRow,mapBlock,Sort.ahead,Array.getElem?_modify,hb,onCells]
theorem put_fr(w:World)(n g off:Nat)(d:Array α)(os:Array Obj):Fr [g] w (grow (putRow enc (Sort.ahead w n) g off d) os):=by
 refine⟨rfl,rfl,rfl,by simp[grow],fun k hk hne=>?_⟩;rw[heap_grow_old _ _ (by simpa using hk)];have:g≠k:=fun e=>hne (by rw[e];simp)
 simp[putRow,mapBlock,Sort.ahead,Array.getElem?_modify,this]
theorem take_put(cur:Array Value)(ts:List α)(h:ts.length≤cur.size):(putCells enc 0 ts.toArray cur).toList.take ts.length=ts.map enc:=by
 apply List.ext_getElem?
 intro j;by_cases hj:j<ts.length
 ·rw[List.getElem?_take_of_lt hj,Array.getElem?_toList]
  simp[putCells,hj,show j<cur.size by omega]
 ·rw[List.getElem?_take_eq_none (by omega),List.getElem?_eq_none (by simp;omega)]
theorem holds_of{w:World}{g:Nat}{cur:Array Value}{e:TypeId}{ss:List α}(hb:w.heap[g]? = some (.cells cur e (0,0)))(ht:cur.toList.take ss.length=ss.map enc):Holds enc w g 0 ss.toArray:=by
 intro j hj;have hj':j<ss.length:=by simpa using hj
 refine⟨?_,by simp[World.frozen?,hb]⟩;have h1:(cur.toList.take ss.length)[j]? = (ss.map enc)[j]?:=by rw[ht]
 rw[List.getElem?_take_of_lt hj']at h1;simp only[World.cell?,hb,Nat.zero_add];simp only[Option.isSome_none,Bool.false_eq_true,if_false];rw[←Array.getElem?_toList,h1];simp[hj']
end
section
variable {α:Type} (enc:α→Value)
structure CB(e:TypeId)(w:World)(g cap:Nat)(xs:List α):Prop where
 ex:∃cur,w.heap[g]? = some (.cells cur e (0,0))∧cur.size=cap∧cur.toList.take xs.length=xs.map enc
 le:xs.length≤cap
 max:cap≤maxLen
theorem CB.lt{e:TypeId}{w:World}{g cap:Nat}{xs:List α}(h:CB enc e w g cap xs):g<w.heap.size:=by
 obtain⟨cur,hb,_⟩:=h.ex;exact(Array.getElem?_eq_some_iff.1 hb).1
theorem CB.kept{e:TypeId}{w w':World}{g cap:Nat}{xs:List α}(h:CB enc e w g cap xs)(hb:w'.heap[g]? = w.heap[g]?):CB enc e w' g cap xs:=by
 obtain⟨cur,h1,h2,h3⟩:=h.ex;exact⟨⟨cur,hb.trans h1,h2,h3⟩,h.le,h.max⟩
theorem CB.cut{e:TypeId}{w:World}{g cap:Nat}{xs ys:List α}(h:CB enc e w g cap (xs++ys)):CB enc e w g cap xs:=by
 obtain⟨cur,h1,h2,h3⟩:=h.ex;have hl:=h.le;rw[List.length_append]at hl;refine⟨⟨cur,h1,h2,?_⟩,by omega,h.max⟩;have:=congrArg (List.take xs.length) h3;rw[List.take_take,List.length_append,Nat.min_eq_left (by omega),List.map_append,List.take_left' (by simp)]at this;exact this
theorem cb_of_own{e:TypeId}{w:World}{B n:Nat}{v:Value}{xs:List α}(h:w.ownsRow B e 1 v n (xs.map enc))(hv:v≠.slice none 0 0):∃g cap,v=.slice (some ⟨g,0,none⟩) n cap∧B≤g∧CB enc e w g cap xs:=by
 obtain⟨h0,h | ⟨g,cap,cur,rfl,hb,hh,h1,h2,h3,h4⟩⟩:=h
 ·exact absurd h.1 hv
 ·have hn:xs.length=n:=by simpa using h0
  refine⟨g,cap,rfl,hb,⟨cur,hh,by omega,by rw[Nat.mul_one]at h4;rw[hn];exact h4⟩,by omega,h2⟩
end
section
variable {α:Type} [Inhabited α] (enc:α→Value)
theorem CB.holds{e:TypeId}{w:World}{g cap:Nat}{xs:List α}(h:CB enc e w g cap xs):Holds enc w g 0 xs.toArray:=by
 obtain⟨cur,hb,_,ht⟩:=h.ex;exact holds_of enc hb ht
theorem CB.cell{e:TypeId}{w:World}{g cap:Nat}{xs:List α}(h:CB enc e w g cap xs)(j:Nat)(hj:j<xs.length):w.cell? ⟨g,j,none⟩=some (enc xs[j]):=by
 have:=(h.holds enc j (by simpa using hj)).1
 simpa[hj] using this
theorem CB.put{e:TypeId}{w:World}{g cap n:Nat}{xs ys:List α}{os:Array Obj}(h:CB enc e w g cap xs)(hl:ys.length=xs.length):CB enc e (grow (putRow enc (Sort.ahead w n) g 0 ys.toArray) os) g cap ys:=by
 obtain⟨cur,h1,h2,h3⟩:=h.ex;refine⟨⟨_,heap_put enc _ h1,by simp[putCells,h2],take_put enc cur ys (by have:=h.le;omega)⟩,by have:=h.le;omega,h.max⟩
end
theorem clone_s(w:World)(A:Option Addr)(c:Nat)(ss:List (List UInt8))(h:Rd w A (ss.map encStr))(hz:0<ss.length)(hbig:ss.length≤1000000) :
 Calls Tryz.prog 73 #[.slice A ss.length c] w fun e w'=>∃g cap,e=.returned (.slice (some ⟨g,0,none⟩) ss.length cap)∧w.heap.size≤g∧CB encStr 9 w' g cap ss∧Below w.heap.size w w':=by
 obtain⟨b,off,rfl,hl,hc⟩:=h (by simpa using hz)
 have K:=Tryz.slices_Clone_string b off ss.length c (ss.map fun l=>⟨l.toArray⟩) w (by simp) (by omega) (fun j hj=>by
  have hj':j<ss.length:=by simpa using hj
  rw[hc j (by simpa using hj')]
  simp[hj',encStr])
 refine K.mono ?_;rintro e w' ⟨v,rfl,ho,hv,hb⟩;rw[List.take_of_length_le (by simp),List.map_map]at ho;obtain⟨g,cap,rfl,h1,h2⟩:=cb_of_own encStr (xs:=ss) (by exact ho) hv;exact⟨g,cap,rfl,h1,h2,hb⟩
theorem sort_s(w:World)(g cap:Nat)(ss:List (List UInt8))(h:CB encStr 9 w g cap ss)(hbig:ss.length≤1000000) :
 Calls Tryz.prog 74 #[.slice (some ⟨g,0,none⟩) ss.length cap] w fun e w'=>e=.returned (.tuple #[])∧CB encStr 9 w' g cap (ss.mergeSort fun x y=>decide (x≤y))∧Fr [g] w w':=by
 refine(Tryz.slices_Sort_string g 0 cap ss w (h.holds encStr) h.lt (by omega)).mono ?_;rintro e w' ⟨rfl,n,os,rfl⟩;exact⟨rfl,h.put encStr (by simp),put_fr encStr _ _ _ _ _ _⟩
theorem compact_s(w:World)(g cap:Nat)(zs:List (List UInt8))(h:CB encStr 9 w g cap zs)(hbig:zs.length≤1000000) :
 Calls Tryz.prog 75 #[.slice (some ⟨g,0,none⟩) zs.length cap] w fun e w'=>e=.returned (.slice (some ⟨g,0,none⟩) (Lib.compact zs).length cap)∧CB encStr 9 w' g cap (Lib.compact zs)∧Fr [g] w w':=by
 refine(Tryz.slices_Compact_string g 0 cap zs w (h.holds encStr) (by omega) h.le).mono ?_;rintro e w' ⟨rfl,q,rfl⟩;have hlen:=Lib.compact_length_le zs;have h1:=h.put encStr (n:=q) (os:=#[]) (ys:=Lib.compact zs++List.replicate (zs.length-(Lib.compact zs).length) []) (by simp;omega);have h2:=put_fr encStr w q g 0 (Lib.compact zs++List.replicate (zs.length-(Lib.compact zs).length) []).toArray #[];rw[grow_empty]at h1 h2;exact⟨rfl,h1.cut encStr,h2⟩
end inn
end Go.Proofs.YtlkboeajkgbnaaaGreatDoor
