/-
  Joined: LenOf Bits.
-/
import Derived.Test.YtejocefblpkdjabGreatJBare
import Derived.Test.YtejocefblpkdjabGreatLen
namespace Go.Proofs.YtejocefblpkdjabGreat
open Go.RowKit
set_option maxRecDepth 100000 in
set_option maxHeartbeats 400000 in
theorem len_any {lo : Nat} {sv : Value} {zs : List Int} {w : World} (h : Seg lo w sv zs) (hl : zs.length ≤ 10000) :
    Calls Tryz.prog 48 #[sv] w fun e w' => e = .returned (.int .i64 (blen (val zs))) ∧ Below w.heap.size w w' := by
  go_enter Tryz.func48, Tryz.ntmps48
  go_wp2_with fail
  refine (bare_any h (by omega)).mono ?_
  rintro e w1 ⟨a1, cap1, ts, rfl, hs1, hn1, hv1, hl1, hb1⟩
  by_cases h0 : ts = []
  · have HF : Hid (blen (val zs) = 0) := by rw [Hid, ← hv1, h0]; rfl
    subst h0
    clear hv1
    go_wp2
    go_ret
    exact ⟨ret_int (by rw [HF.out]; rfl), hb1⟩
  · have hw := hs1.words
    have HF := hide (blen_words hw hn1 h0)
    rw [hv1] at HF
    have hp : 0 < ts.length := List.length_pos_iff.2 h0
    obtain ⟨b, off, rfl, _, _⟩ := hs1.row hp
    obtain ⟨n, hn⟩ : ∃ n, ts.length = n + 1 := ⟨ts.length - 1, by omega⟩
    have hc := (hs1.cell (j := n) (by omega)).1
    have hd := hw.getD n
    rw [hn] at HF hs1 hl1 ⊢
    rw [Nat.add_sub_cancel] at HF
    generalize ts[n]?.getD 0 = d at *
    have hle := blen_le d hd.1 hd.2
    have hlen := len64_any d w1 hd.1 hd.2
    rw [libLen_eq _ (by omega)] at hlen
    have HB := hide hle
    have hbl : Go.bitLen d.toNat = blen d := rfl
    rw [hbl] at hlen
    clear hv1 hbl hn h0 hp
    have hlz : (((n : Int) + 1) == 0) = false := by simp; omega
    go_wp2_with fail
    refine hlen.mono ?_
    rintro e w2 ⟨rfl, rfl⟩
    go_wp2
    go_ret
    exact ⟨ret_int (by rw [HF.out]; go_num), hb1⟩
end Go.Proofs.YtejocefblpkdjabGreat
namespace Go.Proofs.YtejocefblpkdjabGreat
open Go.RowKit Go.Shelf
attribute [local go_sem] Oper.semAt_some
def KeepsCell (Bs : Nat) (W W' : World) : Prop := ∀ u, W.cell? ⟨Bs, 0, none⟩ = some u → W'.cell? ⟨Bs, 0, none⟩ = some u
def bitAt (v : Int) (i : Nat) : Bool := bits .and .i64 (v / 2 ^ i) 1 == 1
def topBits (v : Int) (len k : Nat) : List Bool := (List.range k).map fun j => bitAt v (len - 1 - j)
def bin (l : List Bool) : Nat := l.foldl (fun a b => 2 * a + b.toNat) 0
end Go.Proofs.YtejocefblpkdjabGreat
