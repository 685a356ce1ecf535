/-
  No cell of these rows narrows 'for every input' (looked for: loops, veiled, ifaces, maps, wideKeys, modest, calm, conditions, laid).
  DERIVED. THE GIVEN ROWS OF THIS SEAT. 4 by the template 'for every input the law returns true; each argument reads behind the call as it read before'; 0 by the template 'total and deterministic' (their statements: YtkehlclnljadjaaTotals.lean).
  GIVEN WITH THE SEED: the statements are not yours to turn. If you find one false, say at which input.
  Laid BY PROGRAM, IN A SANDBOX (cutbox-rows.mjs): the forced cells as the released guide's own fill.sh prints them over the translation 82292ccd74fe660c… (all of the seat's roots in one cut). By AI agents, Wed Nov 11 2026. No macro, syntax, notation, axiom, sorry.
-/
import Derived.Test.YtkehlclnljadjaaChecked
import GoSem.Claim
import GoSem.ClaimJoined
import GoSem.ClaimMapViews
import Derived.JoinedTies
import Derived.KernelRfl
namespace Go.Proofs.Ytkehlclnljadjaa
/- THE CELL 'sum', in the pinned program and in every row, IS THE sha256 OF THE DUMP (.gsa) THAT YtkehlclnljadjaaProg.lean LOADS. Nothing in Lean hashes anything: it is a label: what it is worth is what the hold of that sum in a sandbox is worth. -/
noncomputable def Try.pinned : Pinned := { name := "ytkehlclnljadjaa", sum := "82292ccd74fe660c0e08bed2ea0982b125f65cdd012494f51ec253c71f54df5a", checked := Try.checked }
namespace Rows
def none {H : Type} : Left H := { results := [], args := [] }

/-- 'artesianlaw07.BinomTells': WHATEVER THE INPUT: true; the input reads as it did. -/
def binomTellsSpec : ChangeSpec := { name := "binomTells", fn := fun _ => fun
  | [d1, d2] => { results := [.lit (.bool true)], args := [d1, d2] }
  | _ => none }
def binomTellsRow : OpenClaim := { program := "ytkehlclnljadjaa", sum := "82292ccd74fe660c0e08bed2ea0982b125f65cdd012494f51ec253c71f54df5a", func := "artesian/artesianlaw07.BinomTells", spec := "binomTells", inPlace := ["math/bits.Add64", "math/bits.Sub64"], unfollowed := true, recurses := true, named := ["math/bits.divideError", "math/bits.overflowError"], apart := false }
def BinomTellsSaid : Prop := binomTellsRow.holds Try.pinned (OpenSpec.ofChange binomTellsSpec)

/-- ITS FALSE NEIGHBOUR: 'it returns false'. Refute it at one input. -/
def binomTellsWrong : ChangeSpec := { name := "binomTells", fn := fun _ => fun
  | [d1, d2] => { results := [.lit (.bool false)], args := [d1, d2] }
  | _ => none }
def BinomTellsWrongFalsely : Prop := binomTellsRow.holds Try.pinned (OpenSpec.ofChange binomTellsWrong)

/-- 'artesianlaw07.BinomCounts': WHATEVER THE INPUT: true; the input reads as it did. -/
def binomCountsSpec : ChangeSpec := { name := "binomCounts", fn := fun _ => fun
  | [d] => { results := [.lit (.bool true)], args := [d] }
  | _ => none }
def binomCountsRow : OpenClaim := { program := "ytkehlclnljadjaa", sum := "82292ccd74fe660c0e08bed2ea0982b125f65cdd012494f51ec253c71f54df5a", func := "artesian/artesianlaw07.BinomCounts", spec := "binomCounts", inPlace := ["math/bits.Add64", "math/bits.Sub64"], unfollowed := true, recurses := true, named := ["math/bits.divideError", "math/bits.overflowError"], apart := false }
def BinomCountsSaid : Prop := binomCountsRow.holds Try.pinned (OpenSpec.ofChange binomCountsSpec)

/-- ITS FALSE NEIGHBOUR: 'it returns false'. Refute it at one input. -/
def binomCountsWrong : ChangeSpec := { name := "binomCounts", fn := fun _ => fun
  | [d] => { results := [.lit (.bool false)], args := [d] }
  | _ => none }
def BinomCountsWrongFalsely : Prop := binomCountsRow.holds Try.pinned (OpenSpec.ofChange binomCountsWrong)

/-- 'artesianlaw07.BinomKnown': WHATEVER THE INPUT: true; the input reads as it did. -/
def binomKnownSpec : ChangeSpec := { name := "binomKnown", fn := fun _ => fun
  | [] => { results := [.lit (.bool true)], args := [] }
  | _ => none }
def binomKnownRow : OpenClaim := { program := "ytkehlclnljadjaa", sum := "82292ccd74fe660c0e08bed2ea0982b125f65cdd012494f51ec253c71f54df5a", func := "artesian/artesianlaw07.BinomKnown", spec := "binomKnown", inPlace := ["math/bits.Add64", "math/bits.Sub64"], unfollowed := true, recurses := true, named := ["math/bits.divideError", "math/bits.overflowError"], apart := false }
def BinomKnownSaid : Prop := binomKnownRow.holds Try.pinned (OpenSpec.ofChange binomKnownSpec)

/-- ITS FALSE NEIGHBOUR: 'it returns false'. Refute it at one input. -/
def binomKnownWrong : ChangeSpec := { name := "binomKnown", fn := fun _ => fun
  | [] => { results := [.lit (.bool false)], args := [] }
  | _ => none }
def BinomKnownWrongFalsely : Prop := binomKnownRow.holds Try.pinned (OpenSpec.ofChange binomKnownWrong)

/-- 'artesianlaw07.BinomPascal': WHATEVER THE INPUT: true; the input reads as it did. -/
def binomPascalSpec : ChangeSpec := { name := "binomPascal", fn := fun _ => fun
  | [d1, d2] => { results := [.lit (.bool true)], args := [d1, d2] }
  | _ => none }
def binomPascalRow : OpenClaim := { program := "ytkehlclnljadjaa", sum := "82292ccd74fe660c0e08bed2ea0982b125f65cdd012494f51ec253c71f54df5a", func := "artesian/artesianlaw07.BinomPascal", spec := "binomPascal", inPlace := ["math/bits.Add64", "math/bits.Sub64"], unfollowed := true, recurses := true, named := ["math/bits.divideError", "math/bits.overflowError"], apart := false }
def BinomPascalSaid : Prop := binomPascalRow.holds Try.pinned (OpenSpec.ofChange binomPascalSpec)

/-- ITS FALSE NEIGHBOUR: 'it returns false'. Refute it at one input. -/
def binomPascalWrong : ChangeSpec := { name := "binomPascal", fn := fun _ => fun
  | [d1, d2] => { results := [.lit (.bool false)], args := [d1, d2] }
  | _ => none }
def BinomPascalWrongFalsely : Prop := binomPascalRow.holds Try.pinned (OpenSpec.ofChange binomPascalWrong)

/- THE SECOND FORM. 'bulk': how many values and letters a reading holds, each counted each time it is reached (what is shared counts as often as it is met; a slice's spare places count too). A statement '..UptoSaid' is the law's where the arguments, and the package variables that the reading takes, are together of bulk at most 1048576: NARROWER than '..Said'. Prove '..Said' where nothing that the law and all that it calls make is longer than what came in: it says more and counts as full. Else prove '..UptoSaid'. A law counts once. -/
mutual
def uptoBulk {H : Type} : DataW H → Nat
  | .lit (.string bytes) => bytes.length + 1
  | .lit _ => 1
  | .nil => 1
  | .ptr d => uptoBulk d + 1
  | .slice elems spare => uptoBulkAll elems + uptoBulkAll spare + 1
  | .agg parts => uptoBulkAll parts + 1
  | .iface _ d => uptoBulk d + 1
  | .map entries => uptoBulkEntries entries + 1
  | .held _ => 1
def uptoBulkAll {H : Type} : List (DataW H) → Nat
  | [] => 0
  | d :: r => uptoBulk d + uptoBulkAll r
def uptoBulkEntries {H : Type} : List (Lit × DataW H) → Nat
  | [] => 0
  | x :: r => uptoBulkEntry x + uptoBulkEntries r
def uptoBulkEntry {H : Type} : Lit × DataW H → Nat
  | (.string bytes, d) => bytes.length + uptoBulk d + 1
  | (_, d) => uptoBulk d + 1
 end
def uptoSmall : (H : Type) → List (DataW H) → Bool := fun _ ds => decide (uptoBulkAll ds ≤ 1048576)
def OpenSpec.upto (s : _root_.Go.ChangeSpec) : _root_.Go.OpenSpec := { _root_.Go.OpenSpec.ofChange s with cond := some uptoSmall }

/-- 'artesianlaw07.BinomTells', WHERE WHAT IT READS IS OF BULK AT MOST 1048576: true; the input reads as it did. -/
def binomTellsUptoRow : OpenClaim := { program := "ytkehlclnljadjaa", sum := "82292ccd74fe660c0e08bed2ea0982b125f65cdd012494f51ec253c71f54df5a", func := "artesian/artesianlaw07.BinomTells", spec := "binomTells", inPlace := ["math/bits.Add64", "math/bits.Sub64"], unfollowed := true, recurses := true, named := ["math/bits.divideError", "math/bits.overflowError"], apart := false, narrowed := true }
def BinomTellsUptoSaid : Prop := binomTellsUptoRow.holds Try.pinned (OpenSpec.upto binomTellsSpec)

/-- 'artesianlaw07.BinomCounts', WHERE WHAT IT READS IS OF BULK AT MOST 1048576: true; the input reads as it did. -/
def binomCountsUptoRow : OpenClaim := { program := "ytkehlclnljadjaa", sum := "82292ccd74fe660c0e08bed2ea0982b125f65cdd012494f51ec253c71f54df5a", func := "artesian/artesianlaw07.BinomCounts", spec := "binomCounts", inPlace := ["math/bits.Add64", "math/bits.Sub64"], unfollowed := true, recurses := true, named := ["math/bits.divideError", "math/bits.overflowError"], apart := false, narrowed := true }
def BinomCountsUptoSaid : Prop := binomCountsUptoRow.holds Try.pinned (OpenSpec.upto binomCountsSpec)

/-- 'artesianlaw07.BinomKnown', WHERE WHAT IT READS IS OF BULK AT MOST 1048576: true; the input reads as it did. -/
def binomKnownUptoRow : OpenClaim := { program := "ytkehlclnljadjaa", sum := "82292ccd74fe660c0e08bed2ea0982b125f65cdd012494f51ec253c71f54df5a", func := "artesian/artesianlaw07.BinomKnown", spec := "binomKnown", inPlace := ["math/bits.Add64", "math/bits.Sub64"], unfollowed := true, recurses := true, named := ["math/bits.divideError", "math/bits.overflowError"], apart := false, narrowed := true }
def BinomKnownUptoSaid : Prop := binomKnownUptoRow.holds Try.pinned (OpenSpec.upto binomKnownSpec)

/-- 'artesianlaw07.BinomPascal', WHERE WHAT IT READS IS OF BULK AT MOST 1048576: true; the input reads as it did. -/
def binomPascalUptoRow : OpenClaim := { program := "ytkehlclnljadjaa", sum := "82292ccd74fe660c0e08bed2ea0982b125f65cdd012494f51ec253c71f54df5a", func := "artesian/artesianlaw07.BinomPascal", spec := "binomPascal", inPlace := ["math/bits.Add64", "math/bits.Sub64"], unfollowed := true, recurses := true, named := ["math/bits.divideError", "math/bits.overflowError"], apart := false, narrowed := true }
def BinomPascalUptoSaid : Prop := binomPascalUptoRow.holds Try.pinned (OpenSpec.upto binomPascalSpec)

end Rows
end Go.Proofs.Ytkehlclnljadjaa
