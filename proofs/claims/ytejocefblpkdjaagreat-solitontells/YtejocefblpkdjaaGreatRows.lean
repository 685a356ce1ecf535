/-
  No cell of these rows narrows 'for every input' (looked for: loops, veiled, ifaces, maps, wideKeys, modest, calm, conditions, laid).
  DERIVED. THE GIVEN ROWS OF THIS SEAT. 5 by the template 'for every input the law returns true; each argument reads behind the call as it read before'; 0 by the template 'total and deterministic' (their statements: YtejocefblpkdjaaGreatTotals.lean).
  GIVEN WITH THE SEED: the statements are not yours to turn. If you find one false, say at which input.
  Laid BY PROGRAM, IN A SANDBOX (cutbox-rows.mjs): the forced cells as the released guide's own fill.sh prints them over the translation 6fe3f8e8e56af9ab… (all of the seat's roots in one cut). By AI agents, Wed Nov 11 2026. No macro, syntax, notation, axiom, sorry.
-/
import Derived.Test.YtejocefblpkdjaaGreatChecked
import GoSem.Claim
import GoSem.ClaimJoined
import GoSem.ClaimMapViews
import Derived.JoinedTies
import Derived.KernelRfl
namespace Go.Proofs.YtejocefblpkdjaaGreat
/- THE CELL 'sum', in the pinned program and in every row, IS THE sha256 OF THE DUMP (.gsa) THAT YtejocefblpkdjaaGreatProg.lean LOADS. Nothing in Lean hashes anything: it is a label: what it is worth is what the hold of that sum in a sandbox is worth. -/
noncomputable def Tryz.pinned : Pinned := { name := "ytejocefblpkdjaagreat", sum := "6fe3f8e8e56af9ab1702aca6bfbd5f5bf905c5cb62d94325b83cc9a51bb4ca25", checked := Tryz.checked }
namespace Rows
def none {H : Type} : Left H := { results := [], args := [] }

/-- 'artesianlaw13.SolitonMakes': WHATEVER THE INPUT: true; the input reads as it did. -/
def solitonMakesSpec : ChangeSpec := { name := "solitonMakes", fn := fun _ => fun
  | [d1, d2, d3, d4] => { results := [.lit (.bool true)], args := [d1, d2, d3, d4] }
  | _ => none }
def solitonMakesRow : OpenClaim := { program := "ytejocefblpkdjaagreat", sum := "6fe3f8e8e56af9ab1702aca6bfbd5f5bf905c5cb62d94325b83cc9a51bb4ca25", func := "artesian/artesianlaw13.SolitonMakes", spec := "solitonMakes", inPlace := ["math/bits.Add64", "math/bits.Sub64"], unfollowed := true, recurses := true, named := ["math/bits.divideError", "math/bits.overflowError"], apart := false }
def SolitonMakesSaid : Prop := solitonMakesRow.holds Tryz.pinned (OpenSpec.ofChange solitonMakesSpec)

/-- ITS FALSE NEIGHBOUR: 'it returns false'. Refute it at one input. -/
def solitonMakesWrong : ChangeSpec := { name := "solitonMakes", fn := fun _ => fun
  | [d1, d2, d3, d4] => { results := [.lit (.bool false)], args := [d1, d2, d3, d4] }
  | _ => none }
def SolitonMakesWrongFalsely : Prop := solitonMakesRow.holds Tryz.pinned (OpenSpec.ofChange solitonMakesWrong)

/-- 'artesianlaw13.SolitonTells': WHATEVER THE INPUT: true; the input reads as it did. -/
def solitonTellsSpec : ChangeSpec := { name := "solitonTells", fn := fun _ => fun
  | [d1, d2] => { results := [.lit (.bool true)], args := [d1, d2] }
  | _ => none }
def solitonTellsRow : OpenClaim := { program := "ytejocefblpkdjaagreat", sum := "6fe3f8e8e56af9ab1702aca6bfbd5f5bf905c5cb62d94325b83cc9a51bb4ca25", func := "artesian/artesianlaw13.SolitonTells", spec := "solitonTells", inPlace := ["math/bits.Add64", "math/bits.Sub64"], unfollowed := true, recurses := true, named := ["math/bits.divideError", "math/bits.overflowError"], apart := false }
def SolitonTellsSaid : Prop := solitonTellsRow.holds Tryz.pinned (OpenSpec.ofChange solitonTellsSpec)

/-- ITS FALSE NEIGHBOUR: 'it returns false'. Refute it at one input. -/
def solitonTellsWrong : ChangeSpec := { name := "solitonTells", fn := fun _ => fun
  | [d1, d2] => { results := [.lit (.bool false)], args := [d1, d2] }
  | _ => none }
def SolitonTellsWrongFalsely : Prop := solitonTellsRow.holds Tryz.pinned (OpenSpec.ofChange solitonTellsWrong)

/-- 'artesianlaw13.SolitonKnown': WHATEVER THE INPUT: true; the input reads as it did. -/
def solitonKnownSpec : ChangeSpec := { name := "solitonKnown", fn := fun _ => fun
  | [] => { results := [.lit (.bool true)], args := [] }
  | _ => none }
def solitonKnownRow : OpenClaim := { program := "ytejocefblpkdjaagreat", sum := "6fe3f8e8e56af9ab1702aca6bfbd5f5bf905c5cb62d94325b83cc9a51bb4ca25", func := "artesian/artesianlaw13.SolitonKnown", spec := "solitonKnown", inPlace := ["math/bits.Add64", "math/bits.Sub64"], unfollowed := true, recurses := true, named := ["math/bits.divideError", "math/bits.overflowError"], apart := false }
def SolitonKnownSaid : Prop := solitonKnownRow.holds Tryz.pinned (OpenSpec.ofChange solitonKnownSpec)

/-- ITS FALSE NEIGHBOUR: 'it returns false'. Refute it at one input. -/
def solitonKnownWrong : ChangeSpec := { name := "solitonKnown", fn := fun _ => fun
  | [] => { results := [.lit (.bool false)], args := [] }
  | _ => none }
def SolitonKnownWrongFalsely : Prop := solitonKnownRow.holds Tryz.pinned (OpenSpec.ofChange solitonKnownWrong)

/-- 'artesianlaw13.SolitonNear': WHATEVER THE INPUT: true; the input reads as it did. -/
def solitonNearSpec : ChangeSpec := { name := "solitonNear", fn := fun _ => fun
  | [d1, d2] => { results := [.lit (.bool true)], args := [d1, d2] }
  | _ => none }
def solitonNearRow : OpenClaim := { program := "ytejocefblpkdjaagreat", sum := "6fe3f8e8e56af9ab1702aca6bfbd5f5bf905c5cb62d94325b83cc9a51bb4ca25", func := "artesian/artesianlaw13.SolitonNear", spec := "solitonNear", inPlace := ["math/bits.Add64", "math/bits.Sub64"], unfollowed := true, recurses := true, named := ["math/bits.divideError", "math/bits.overflowError"], apart := false }
def SolitonNearSaid : Prop := solitonNearRow.holds Tryz.pinned (OpenSpec.ofChange solitonNearSpec)

/-- ITS FALSE NEIGHBOUR: 'it returns false'. Refute it at one input. -/
def solitonNearWrong : ChangeSpec := { name := "solitonNear", fn := fun _ => fun
  | [d1, d2] => { results := [.lit (.bool false)], args := [d1, d2] }
  | _ => none }
def SolitonNearWrongFalsely : Prop := solitonNearRow.holds Tryz.pinned (OpenSpec.ofChange solitonNearWrong)

/-- 'artesianlaw13.SolitonSpike': WHATEVER THE INPUT: true; the input reads as it did. -/
def solitonSpikeSpec : ChangeSpec := { name := "solitonSpike", fn := fun _ => fun
  | [d1, d2, d3, d4] => { results := [.lit (.bool true)], args := [d1, d2, d3, d4] }
  | _ => none }
def solitonSpikeRow : OpenClaim := { program := "ytejocefblpkdjaagreat", sum := "6fe3f8e8e56af9ab1702aca6bfbd5f5bf905c5cb62d94325b83cc9a51bb4ca25", func := "artesian/artesianlaw13.SolitonSpike", spec := "solitonSpike", inPlace := ["math/bits.Add64", "math/bits.Sub64"], unfollowed := true, recurses := true, named := ["math/bits.divideError", "math/bits.overflowError"], apart := false }
def SolitonSpikeSaid : Prop := solitonSpikeRow.holds Tryz.pinned (OpenSpec.ofChange solitonSpikeSpec)

/-- ITS FALSE NEIGHBOUR: 'it returns false'. Refute it at one input. -/
def solitonSpikeWrong : ChangeSpec := { name := "solitonSpike", fn := fun _ => fun
  | [d1, d2, d3, d4] => { results := [.lit (.bool false)], args := [d1, d2, d3, d4] }
  | _ => none }
def SolitonSpikeWrongFalsely : Prop := solitonSpikeRow.holds Tryz.pinned (OpenSpec.ofChange solitonSpikeWrong)

/- THE SECOND FORM. 'bulk': how many values and letters a reading holds, each counted each time it is reached (what is shared counts as often as it is met; a slice's spare places count too). A statement '..UptoSaid' is the law's where the arguments, and the package variables that the reading takes, are together of bulk at most 1048576: NARROWER than '..Said'. Prove '..Said' where nothing that the law and all that it calls make is longer than what came in: it says more and counts as full. Else prove '..UptoSaid'. A law counts once. -/
mutual
def uptoBulk {H : Type} : DataW H → Nat
  | .lit (.string bytes) => bytes.length + 1
  | .lit _ => 1
  | .nil => 1
  | .ptr d => uptoBulk d + 1
  | .slice elems spare => uptoBulkAll elems + uptoBulkAll spare + 1
  | .agg parts => uptoBulkAll parts + 1
  | .iface _ d => uptoBulk d + 1
  | .map entries => uptoBulkEntries entries + 1
  | .held _ => 1
def uptoBulkAll {H : Type} : List (DataW H) → Nat
  | [] => 0
  | d :: r => uptoBulk d + uptoBulkAll r
def uptoBulkEntries {H : Type} : List (Lit × DataW H) → Nat
  | [] => 0
  | x :: r => uptoBulkEntry x + uptoBulkEntries r
def uptoBulkEntry {H : Type} : Lit × DataW H → Nat
  | (.string bytes, d) => bytes.length + uptoBulk d + 1
  | (_, d) => uptoBulk d + 1
 end
def uptoSmall : (H : Type) → List (DataW H) → Bool := fun _ ds => decide (uptoBulkAll ds ≤ 1048576)
def OpenSpec.upto (s : _root_.Go.ChangeSpec) : _root_.Go.OpenSpec := { _root_.Go.OpenSpec.ofChange s with cond := some uptoSmall }

/-- 'artesianlaw13.SolitonMakes', WHERE WHAT IT READS IS OF BULK AT MOST 1048576: true; the input reads as it did. -/
def solitonMakesUptoRow : OpenClaim := { program := "ytejocefblpkdjaagreat", sum := "6fe3f8e8e56af9ab1702aca6bfbd5f5bf905c5cb62d94325b83cc9a51bb4ca25", func := "artesian/artesianlaw13.SolitonMakes", spec := "solitonMakes", inPlace := ["math/bits.Add64", "math/bits.Sub64"], unfollowed := true, recurses := true, named := ["math/bits.divideError", "math/bits.overflowError"], apart := false, narrowed := true }
def SolitonMakesUptoSaid : Prop := solitonMakesUptoRow.holds Tryz.pinned (OpenSpec.upto solitonMakesSpec)

/-- 'artesianlaw13.SolitonTells', WHERE WHAT IT READS IS OF BULK AT MOST 1048576: true; the input reads as it did. -/
def solitonTellsUptoRow : OpenClaim := { program := "ytejocefblpkdjaagreat", sum := "6fe3f8e8e56af9ab1702aca6bfbd5f5bf905c5cb62d94325b83cc9a51bb4ca25", func := "artesian/artesianlaw13.SolitonTells", spec := "solitonTells", inPlace := ["math/bits.Add64", "math/bits.Sub64"], unfollowed := true, recurses := true, named := ["math/bits.divideError", "math/bits.overflowError"], apart := false, narrowed := true }
def SolitonTellsUptoSaid : Prop := solitonTellsUptoRow.holds Tryz.pinned (OpenSpec.upto solitonTellsSpec)

/-- 'artesianlaw13.SolitonKnown', WHERE WHAT IT READS IS OF BULK AT MOST 1048576: true; the input reads as it did. -/
def solitonKnownUptoRow : OpenClaim := { program := "ytejocefblpkdjaagreat", sum := "6fe3f8e8e56af9ab1702aca6bfbd5f5bf905c5cb62d94325b83cc9a51bb4ca25", func := "artesian/artesianlaw13.SolitonKnown", spec := "solitonKnown", inPlace := ["math/bits.Add64", "math/bits.Sub64"], unfollowed := true, recurses := true, named := ["math/bits.divideError", "math/bits.overflowError"], apart := false, narrowed := true }
def SolitonKnownUptoSaid : Prop := solitonKnownUptoRow.holds Tryz.pinned (OpenSpec.upto solitonKnownSpec)

/-- 'artesianlaw13.SolitonNear', WHERE WHAT IT READS IS OF BULK AT MOST 1048576: true; the input reads as it did. -/
def solitonNearUptoRow : OpenClaim := { program := "ytejocefblpkdjaagreat", sum := "6fe3f8e8e56af9ab1702aca6bfbd5f5bf905c5cb62d94325b83cc9a51bb4ca25", func := "artesian/artesianlaw13.SolitonNear", spec := "solitonNear", inPlace := ["math/bits.Add64", "math/bits.Sub64"], unfollowed := true, recurses := true, named := ["math/bits.divideError", "math/bits.overflowError"], apart := false, narrowed := true }
def SolitonNearUptoSaid : Prop := solitonNearUptoRow.holds Tryz.pinned (OpenSpec.upto solitonNearSpec)

/-- 'artesianlaw13.SolitonSpike', WHERE WHAT IT READS IS OF BULK AT MOST 1048576: true; the input reads as it did. -/
def solitonSpikeUptoRow : OpenClaim := { program := "ytejocefblpkdjaagreat", sum := "6fe3f8e8e56af9ab1702aca6bfbd5f5bf905c5cb62d94325b83cc9a51bb4ca25", func := "artesian/artesianlaw13.SolitonSpike", spec := "solitonSpike", inPlace := ["math/bits.Add64", "math/bits.Sub64"], unfollowed := true, recurses := true, named := ["math/bits.divideError", "math/bits.overflowError"], apart := false, narrowed := true }
def SolitonSpikeUptoSaid : Prop := solitonSpikeUptoRow.holds Tryz.pinned (OpenSpec.upto solitonSpikeSpec)

end Rows
end Go.Proofs.YtejocefblpkdjaaGreat
