/-
  No cell of these rows narrows 'for every input' (looked for: loops, veiled, ifaces, maps, wideKeys, modest, calm, conditions, laid).
  DERIVED. THE GIVEN ROWS OF THIS SEAT. 6 by the template 'for every input the law returns true; each argument reads behind the call as it read before'; 0 by the template 'total and deterministic' (their statements: YtjoakmhebcfeaaaTotals.lean).
  GIVEN WITH THE SEED: the statements are not yours to turn. If you find one false, say at which input.
  Laid BY PROGRAM, IN A SANDBOX (cutbox-rows.mjs): the forced cells as the released guide's own fill.sh prints them over the translation d847ea395d54b954… (all of the seat's roots in one cut). By AI agents, Wed Nov 11 2026. No macro, syntax, notation, axiom, sorry.
-/
import Derived.Test.YtjoakmhebcfeaaaChecked
import GoSem.Claim
import GoSem.ClaimJoined
import GoSem.ClaimMapViews
import Derived.JoinedTies
import Derived.KernelRfl
namespace Go.Proofs.Ytjoakmhebcfeaaa
/- THE CELL 'sum', in the pinned program and in every row, IS THE sha256 OF THE DUMP (.gsa) THAT YtjoakmhebcfeaaaProg.lean LOADS. Nothing in Lean hashes anything: it is a label: what it is worth is what the hold of that sum in a sandbox is worth. -/
noncomputable def Try.pinned : Pinned := { name := "ytjoakmhebcfeaaa", sum := "d847ea395d54b95418ad172f748cb30dc7a1bf07a79717942fb50b540a788ffe", checked := Try.checked }
namespace Rows
def none {H : Type} : Left H := { results := [], args := [] }

/-- 'artesianlaw04.SignedForms': WHATEVER THE INPUT: true; the input reads as it did. -/
def signedFormsSpec : ChangeSpec := { name := "signedForms", fn := fun _ => fun
  | [d1, d2] => { results := [.lit (.bool true)], args := [d1, d2] }
  | _ => none }
def signedFormsRow : OpenClaim := { program := "ytjoakmhebcfeaaa", sum := "d847ea395d54b95418ad172f748cb30dc7a1bf07a79717942fb50b540a788ffe", func := "artesian/artesianlaw04.SignedForms", spec := "signedForms", inPlace := ["math/bits.Add64", "math/bits.Sub64"], unfollowed := true, recurses := true, apart := false }
def SignedFormsSaid : Prop := signedFormsRow.holds Try.pinned (OpenSpec.ofChange signedFormsSpec)

/-- ITS FALSE NEIGHBOUR: 'it returns false'. Refute it at one input. -/
def signedFormsWrong : ChangeSpec := { name := "signedForms", fn := fun _ => fun
  | [d1, d2] => { results := [.lit (.bool false)], args := [d1, d2] }
  | _ => none }
def SignedFormsWrongFalsely : Prop := signedFormsRow.holds Try.pinned (OpenSpec.ofChange signedFormsWrong)

/-- 'artesianlaw04.SignedReckons': WHATEVER THE INPUT: true; the input reads as it did. -/
def signedReckonsSpec : ChangeSpec := { name := "signedReckons", fn := fun _ => fun
  | [d1, d2] => { results := [.lit (.bool true)], args := [d1, d2] }
  | _ => none }
def signedReckonsRow : OpenClaim := { program := "ytjoakmhebcfeaaa", sum := "d847ea395d54b95418ad172f748cb30dc7a1bf07a79717942fb50b540a788ffe", func := "artesian/artesianlaw04.SignedReckons", spec := "signedReckons", inPlace := ["math/bits.Add64", "math/bits.Sub64"], unfollowed := true, recurses := true, apart := false }
def SignedReckonsSaid : Prop := signedReckonsRow.holds Try.pinned (OpenSpec.ofChange signedReckonsSpec)

/-- ITS FALSE NEIGHBOUR: 'it returns false'. Refute it at one input. -/
def signedReckonsWrong : ChangeSpec := { name := "signedReckons", fn := fun _ => fun
  | [d1, d2] => { results := [.lit (.bool false)], args := [d1, d2] }
  | _ => none }
def SignedReckonsWrongFalsely : Prop := signedReckonsRow.holds Try.pinned (OpenSpec.ofChange signedReckonsWrong)

/-- 'artesianlaw04.SignedKnown': WHATEVER THE INPUT: true; the input reads as it did. -/
def signedKnownSpec : ChangeSpec := { name := "signedKnown", fn := fun _ => fun
  | [] => { results := [.lit (.bool true)], args := [] }
  | _ => none }
def signedKnownRow : OpenClaim := { program := "ytjoakmhebcfeaaa", sum := "d847ea395d54b95418ad172f748cb30dc7a1bf07a79717942fb50b540a788ffe", func := "artesian/artesianlaw04.SignedKnown", spec := "signedKnown", inPlace := ["math/bits.Add64", "math/bits.Sub64"], unfollowed := true, recurses := true, apart := false }
def SignedKnownSaid : Prop := signedKnownRow.holds Try.pinned (OpenSpec.ofChange signedKnownSpec)

/-- ITS FALSE NEIGHBOUR: 'it returns false'. Refute it at one input. -/
def signedKnownWrong : ChangeSpec := { name := "signedKnown", fn := fun _ => fun
  | [] => { results := [.lit (.bool false)], args := [] }
  | _ => none }
def SignedKnownWrongFalsely : Prop := signedKnownRow.holds Try.pinned (OpenSpec.ofChange signedKnownWrong)

/-- 'artesianlaw04.SignedRing': WHATEVER THE INPUT: true; the input reads as it did. -/
def signedRingSpec : ChangeSpec := { name := "signedRing", fn := fun _ => fun
  | [d1, d2, d3] => { results := [.lit (.bool true)], args := [d1, d2, d3] }
  | _ => none }
def signedRingRow : OpenClaim := { program := "ytjoakmhebcfeaaa", sum := "d847ea395d54b95418ad172f748cb30dc7a1bf07a79717942fb50b540a788ffe", func := "artesian/artesianlaw04.SignedRing", spec := "signedRing", inPlace := ["math/bits.Add64", "math/bits.Sub64"], unfollowed := true, recurses := true, apart := false }
def SignedRingSaid : Prop := signedRingRow.holds Try.pinned (OpenSpec.ofChange signedRingSpec)

/-- ITS FALSE NEIGHBOUR: 'it returns false'. Refute it at one input. -/
def signedRingWrong : ChangeSpec := { name := "signedRing", fn := fun _ => fun
  | [d1, d2, d3] => { results := [.lit (.bool false)], args := [d1, d2, d3] }
  | _ => none }
def SignedRingWrongFalsely : Prop := signedRingRow.holds Try.pinned (OpenSpec.ofChange signedRingWrong)

/-- 'artesianlaw04.SignedOrder': WHATEVER THE INPUT: true; the input reads as it did. -/
def signedOrderSpec : ChangeSpec := { name := "signedOrder", fn := fun _ => fun
  | [d1, d2, d3] => { results := [.lit (.bool true)], args := [d1, d2, d3] }
  | _ => none }
def signedOrderRow : OpenClaim := { program := "ytjoakmhebcfeaaa", sum := "d847ea395d54b95418ad172f748cb30dc7a1bf07a79717942fb50b540a788ffe", func := "artesian/artesianlaw04.SignedOrder", spec := "signedOrder", inPlace := ["math/bits.Add64", "math/bits.Sub64"], unfollowed := true, recurses := true, apart := false }
def SignedOrderSaid : Prop := signedOrderRow.holds Try.pinned (OpenSpec.ofChange signedOrderSpec)

/-- ITS FALSE NEIGHBOUR: 'it returns false'. Refute it at one input. -/
def signedOrderWrong : ChangeSpec := { name := "signedOrder", fn := fun _ => fun
  | [d1, d2, d3] => { results := [.lit (.bool false)], args := [d1, d2, d3] }
  | _ => none }
def SignedOrderWrongFalsely : Prop := signedOrderRow.holds Try.pinned (OpenSpec.ofChange signedOrderWrong)

/-- 'artesianlaw04.SignedInts': WHATEVER THE INPUT: true; the input reads as it did. -/
def signedIntsSpec : ChangeSpec := { name := "signedInts", fn := fun _ => fun
  | [d1, d2] => { results := [.lit (.bool true)], args := [d1, d2] }
  | _ => none }
def signedIntsRow : OpenClaim := { program := "ytjoakmhebcfeaaa", sum := "d847ea395d54b95418ad172f748cb30dc7a1bf07a79717942fb50b540a788ffe", func := "artesian/artesianlaw04.SignedInts", spec := "signedInts", inPlace := ["math/bits.Add64", "math/bits.Sub64"], unfollowed := true, recurses := true, apart := false }
def SignedIntsSaid : Prop := signedIntsRow.holds Try.pinned (OpenSpec.ofChange signedIntsSpec)

/-- ITS FALSE NEIGHBOUR: 'it returns false'. Refute it at one input. -/
def signedIntsWrong : ChangeSpec := { name := "signedInts", fn := fun _ => fun
  | [d1, d2] => { results := [.lit (.bool false)], args := [d1, d2] }
  | _ => none }
def SignedIntsWrongFalsely : Prop := signedIntsRow.holds Try.pinned (OpenSpec.ofChange signedIntsWrong)

/- THE SECOND FORM. 'bulk': how many values and letters a reading holds, each counted each time it is reached (what is shared counts as often as it is met; a slice's spare places count too). A statement '..UptoSaid' is the law's where the arguments, and the package variables that the reading takes, are together of bulk at most 1048576: NARROWER than '..Said'. Prove '..Said' where nothing that the law and all that it calls make is longer than what came in: it says more and counts as full. Else prove '..UptoSaid'. A law counts once. -/
mutual
def uptoBulk {H : Type} : DataW H → Nat
  | .lit (.string bytes) => bytes.length + 1
  | .lit _ => 1
  | .nil => 1
  | .ptr d => uptoBulk d + 1
  | .slice elems spare => uptoBulkAll elems + uptoBulkAll spare + 1
  | .agg parts => uptoBulkAll parts + 1
  | .iface _ d => uptoBulk d + 1
  | .map entries => uptoBulkEntries entries + 1
  | .held _ => 1
def uptoBulkAll {H : Type} : List (DataW H) → Nat
  | [] => 0
  | d :: r => uptoBulk d + uptoBulkAll r
def uptoBulkEntries {H : Type} : List (Lit × DataW H) → Nat
  | [] => 0
  | x :: r => uptoBulkEntry x + uptoBulkEntries r
def uptoBulkEntry {H : Type} : Lit × DataW H → Nat
  | (.string bytes, d) => bytes.length + uptoBulk d + 1
  | (_, d) => uptoBulk d + 1
 end
def uptoSmall : (H : Type) → List (DataW H) → Bool := fun _ ds => decide (uptoBulkAll ds ≤ 1048576)
def OpenSpec.upto (s : _root_.Go.ChangeSpec) : _root_.Go.OpenSpec := { _root_.Go.OpenSpec.ofChange s with cond := some uptoSmall }

/-- 'artesianlaw04.SignedForms', WHERE WHAT IT READS IS OF BULK AT MOST 1048576: true; the input reads as it did. -/
def signedFormsUptoRow : OpenClaim := { program := "ytjoakmhebcfeaaa", sum := "d847ea395d54b95418ad172f748cb30dc7a1bf07a79717942fb50b540a788ffe", func := "artesian/artesianlaw04.SignedForms", spec := "signedForms", inPlace := ["math/bits.Add64", "math/bits.Sub64"], unfollowed := true, recurses := true, apart := false, narrowed := true }
def SignedFormsUptoSaid : Prop := signedFormsUptoRow.holds Try.pinned (OpenSpec.upto signedFormsSpec)

/-- 'artesianlaw04.SignedReckons', WHERE WHAT IT READS IS OF BULK AT MOST 1048576: true; the input reads as it did. -/
def signedReckonsUptoRow : OpenClaim := { program := "ytjoakmhebcfeaaa", sum := "d847ea395d54b95418ad172f748cb30dc7a1bf07a79717942fb50b540a788ffe", func := "artesian/artesianlaw04.SignedReckons", spec := "signedReckons", inPlace := ["math/bits.Add64", "math/bits.Sub64"], unfollowed := true, recurses := true, apart := false, narrowed := true }
def SignedReckonsUptoSaid : Prop := signedReckonsUptoRow.holds Try.pinned (OpenSpec.upto signedReckonsSpec)

/-- 'artesianlaw04.SignedKnown', WHERE WHAT IT READS IS OF BULK AT MOST 1048576: true; the input reads as it did. -/
def signedKnownUptoRow : OpenClaim := { program := "ytjoakmhebcfeaaa", sum := "d847ea395d54b95418ad172f748cb30dc7a1bf07a79717942fb50b540a788ffe", func := "artesian/artesianlaw04.SignedKnown", spec := "signedKnown", inPlace := ["math/bits.Add64", "math/bits.Sub64"], unfollowed := true, recurses := true, apart := false, narrowed := true }
def SignedKnownUptoSaid : Prop := signedKnownUptoRow.holds Try.pinned (OpenSpec.upto signedKnownSpec)

/-- 'artesianlaw04.SignedRing', WHERE WHAT IT READS IS OF BULK AT MOST 1048576: true; the input reads as it did. -/
def signedRingUptoRow : OpenClaim := { program := "ytjoakmhebcfeaaa", sum := "d847ea395d54b95418ad172f748cb30dc7a1bf07a79717942fb50b540a788ffe", func := "artesian/artesianlaw04.SignedRing", spec := "signedRing", inPlace := ["math/bits.Add64", "math/bits.Sub64"], unfollowed := true, recurses := true, apart := false, narrowed := true }
def SignedRingUptoSaid : Prop := signedRingUptoRow.holds Try.pinned (OpenSpec.upto signedRingSpec)

/-- 'artesianlaw04.SignedOrder', WHERE WHAT IT READS IS OF BULK AT MOST 1048576: true; the input reads as it did. -/
def signedOrderUptoRow : OpenClaim := { program := "ytjoakmhebcfeaaa", sum := "d847ea395d54b95418ad172f748cb30dc7a1bf07a79717942fb50b540a788ffe", func := "artesian/artesianlaw04.SignedOrder", spec := "signedOrder", inPlace := ["math/bits.Add64", "math/bits.Sub64"], unfollowed := true, recurses := true, apart := false, narrowed := true }
def SignedOrderUptoSaid : Prop := signedOrderUptoRow.holds Try.pinned (OpenSpec.upto signedOrderSpec)

/-- 'artesianlaw04.SignedInts', WHERE WHAT IT READS IS OF BULK AT MOST 1048576: true; the input reads as it did. -/
def signedIntsUptoRow : OpenClaim := { program := "ytjoakmhebcfeaaa", sum := "d847ea395d54b95418ad172f748cb30dc7a1bf07a79717942fb50b540a788ffe", func := "artesian/artesianlaw04.SignedInts", spec := "signedInts", inPlace := ["math/bits.Add64", "math/bits.Sub64"], unfollowed := true, recurses := true, apart := false, narrowed := true }
def SignedIntsUptoSaid : Prop := signedIntsUptoRow.holds Try.pinned (OpenSpec.upto signedIntsSpec)

end Rows
end Go.Proofs.Ytjoakmhebcfeaaa
