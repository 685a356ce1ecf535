/-
  Joined: CTab CTabs.
-/
import Derived.Test.YtbebdeaeegcfkaaJWiden
import Derived.Test.YtbebdeaeegcfkaaJRMulB
import Derived.Deep.WholeRow
import Derived.Deep.MidRow
namespace Go.Proofs.Ytbebdeaeegcfkaa
open Go.RowKit
def tabv (f : Nat → Nat) : Array Value := ((List.range 256).map fun k => Value.int .u32 (f k : Nat)).toArray
def setf (f : Nat → Nat) (k x : Nat) : Nat → Nat := fun j => if j = k then x else f j
theorem below_setRow {B g : Nat} {a w : World} (h : Below B a w) (hg : B ≤ g) (cs : Array Value) : Below B a (w.setRow g cs) :=
  ⟨h.os, h.tape, h.output, by simpa using h.size, fun k hk => (setRow_other w g k cs (by omega)).trans (h.block k hk)⟩
theorem Box.setRow {W : World} {g : Nat} {old : Array Value} {t : TypeId} (cs : Array Value) (h : Box W g (.cells old t)) : Box (W.setRow g cs) g (.cells cs t) :=
  ⟨by simpa using h.lt, setRow_heap W g old cs t _ h.what⟩
theorem Box.row_other {W : World} {g k : Nat} {o : Obj} (h : Box W k o) (hk : k ≠ g) (cs : Array Value) : Box (W.setRow g cs) k o :=
  ⟨by simpa using h.lt, (setRow_other W g k cs hk).trans h.what⟩
theorem Box.cell_other {W : World} {g k : Nat} {o : Obj} (h : Box W k o) (hk : k ≠ g) (j : Nat) (v : Value) : Box (W.setCell ⟨g, j, none⟩ v) k o :=
  ⟨by simpa [World.setCell] using h.lt, (heap_setCell_other W ⟨g, j, none⟩ k v hk).trans h.what⟩
def tfill (k : Nat) : Nat → Nat := fun j => if j < k then cT j else 0
def tmid (k j : Nat) : Nat → Nat := setf (tfill k) k (cSn j k)
end Go.Proofs.Ytbebdeaeegcfkaa
