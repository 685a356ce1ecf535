/-
  Joined: MGet MPut MWords MHGet MReads.
-/
import Derived.Test.YtbebdeaeegcfkaaJMKit
import Derived.Test.YtbebdeaeegcfkaaJWiden
import Derived.Test.YtbebdeaeegcfkaaJRMulB
import Derived.Test.YtbebdeaeegcfkaaJOMem
import Derived.Deep.Quiet
import Derived.Deep.QuietTactic
namespace Go.Proofs.Ytbebdeaeegcfkaa
open Go.RowKit
theorem getR_ok {zs : List Int} {t : Nat} {k : Int} {K : Nat} (hk : k = K) (hw : IsW k) (hl : t + K ≤ zs.length) (hv : fld zs t K < 9223372036854775808) : getR zs ⟨t, 0, 0⟩ k = (fld zs t K, ⟨t + K, 0, 0⟩) := by
  subst hk
  unfold fld at hv ⊢
  unfold getR
  rw [if_pos rfl, if_pos hw, if_neg (by dsimp only; omega), Int.toNat_natCast, if_pos hv]
theorem getR_no {zs : List Int} {s : RS} {k : Int} (h : ¬ s.er = 0) : ¬ (getR zs s k).2.er = 0 := by
  unfold getR
  rw [if_neg h]
  exact h
theorem getR_short {zs : List Int} {t : Nat} {k : Int} (hw : IsW k) (hl : (zs.length : Int) < t + k) : ¬ (getR zs ⟨t, 0, 0⟩ k).2.er = 0 := by
  unfold getR
  rw [if_pos rfl, if_pos hw, if_pos (by dsimp only; omega)]
  show ¬ (7 : Int) = 0
  decide
theorem getR_great {zs : List Int} {t : Nat} {k : Int} {K : Nat} (hk : k = K) (hw : IsW k) (hl : t + K ≤ zs.length) (hv : ¬ fld zs t K < 9223372036854775808) : ¬ (getR zs ⟨t, 0, 0⟩ k).2.er = 0 := by
  subst hk
  unfold fld at hv
  unfold getR
  rw [if_pos rfl, if_pos hw, if_neg (by dsimp only; omega), Int.toNat_natCast, if_neg hv]
  show ¬ (3 : Int) = 0
  decide
theorem fld_lt {zs : List Int} (ho : Octs zs) (t K : Nat) : fld zs t K < 256 ^ K := by
  unfold fld
  have h1 := nb_lt ((zs.drop t).take K) ((ho.drop t).take K)
  have h2 : ((zs.drop t).take K).length ≤ K := by rw [List.length_take]; omega
  exact Nat.lt_of_lt_of_le h1 (Nat.pow_le_pow_right (by decide) h2)
theorem head_yes {zs : List Int} (ho : Octs zs) (hl : 20 ≤ zs.length) (hv : fld zs 10 8 < 9223372036854775808) :
    q1 zs ⟨0, 0, 0⟩ = (fld zs 0 4, ⟨4, 0, 0⟩) ∧ q2 zs ⟨0, 0, 0⟩ = (fld zs 4 2, ⟨6, 0, 0⟩) ∧ q3 zs ⟨0, 0, 0⟩ = (fld zs 6 4, ⟨10, 0, 0⟩) ∧ q4 zs ⟨0, 0, 0⟩ = (fld zs 10 8, ⟨18, 0, 0⟩) ∧ q5 zs ⟨0, 0, 0⟩ = (fld zs 18 2, ⟨20, 0, 0⟩) := by
  have p4 : (256 : Nat) ^ 4 = 4294967296 := by decide
  have p2 : (256 : Nat) ^ 2 = 65536 := by decide
  have f0 := fld_lt ho 0 4
  have f4 := fld_lt ho 4 2
  have f6 := fld_lt ho 6 4
  have f18 := fld_lt ho 18 2
  rw [p4] at f0 f6
  rw [p2] at f4 f18
  have e1 : q1 zs ⟨0, 0, 0⟩ = (fld zs 0 4, ⟨4, 0, 0⟩) := getR_ok (K := 4) rfl (by decide) (by omega) (by omega)
  have e2 : q2 zs ⟨0, 0, 0⟩ = (fld zs 4 2, ⟨6, 0, 0⟩) := by unfold q2; rw [e1]; exact getR_ok (K := 2) rfl (by decide) (by omega) (by omega)
  have e3 : q3 zs ⟨0, 0, 0⟩ = (fld zs 6 4, ⟨10, 0, 0⟩) := by unfold q3; rw [e2]; exact getR_ok (K := 4) rfl (by decide) (by omega) (by omega)
  have e4 : q4 zs ⟨0, 0, 0⟩ = (fld zs 10 8, ⟨18, 0, 0⟩) := by unfold q4; rw [e3]; exact getR_ok (K := 8) rfl (by decide) (by omega) hv
  have e5 : q5 zs ⟨0, 0, 0⟩ = (fld zs 18 2, ⟨20, 0, 0⟩) := by unfold q5; rw [e4]; exact getR_ok (K := 2) rfl (by decide) (by omega) (by omega)
  exact ⟨e1, e2, e3, e4, e5⟩
theorem head_no {zs : List Int} (ho : Octs zs) (h : zs.length < 20 ∨ ¬ fld zs 10 8 < 9223372036854775808) : ¬ (q5 zs ⟨0, 0, 0⟩).2.er = 0 := by
  have p4 : (256 : Nat) ^ 4 = 4294967296 := by decide
  have p2 : (256 : Nat) ^ 2 = 65536 := by decide
  have f0 := fld_lt ho 0 4
  have f4 := fld_lt ho 4 2
  have f6 := fld_lt ho 6 4
  rw [p4] at f0 f6
  rw [p2] at f4
  by_cases l1 : zs.length < 4
  · have e1 : ¬ (q1 zs ⟨0, 0, 0⟩).2.er = 0 := getR_short (by decide) (by show (zs.length : Int) < (0 : Nat) + 4; omega)
    exact getR_no (getR_no (getR_no (getR_no e1)))
  have e1 : q1 zs ⟨0, 0, 0⟩ = (fld zs 0 4, ⟨4, 0, 0⟩) := getR_ok (K := 4) rfl (by decide) (by omega) (by omega)
  by_cases l2 : zs.length < 6
  · have e2 : ¬ (q2 zs ⟨0, 0, 0⟩).2.er = 0 := by unfold q2; rw [e1]; exact getR_short (by decide) (by show (zs.length : Int) < (4 : Nat) + 2; omega)
    exact getR_no (getR_no (getR_no e2))
  have e2 : q2 zs ⟨0, 0, 0⟩ = (fld zs 4 2, ⟨6, 0, 0⟩) := by unfold q2; rw [e1]; exact getR_ok (K := 2) rfl (by decide) (by omega) (by omega)
  by_cases l3 : zs.length < 10
  · have e3 : ¬ (q3 zs ⟨0, 0, 0⟩).2.er = 0 := by unfold q3; rw [e2]; exact getR_short (by decide) (by show (zs.length : Int) < (6 : Nat) + 4; omega)
    exact getR_no (getR_no e3)
  have e3 : q3 zs ⟨0, 0, 0⟩ = (fld zs 6 4, ⟨10, 0, 0⟩) := by unfold q3; rw [e2]; exact getR_ok (K := 4) rfl (by decide) (by omega) (by omega)
  by_cases l4 : zs.length < 18
  · have e4 : ¬ (q4 zs ⟨0, 0, 0⟩).2.er = 0 := by unfold q4; rw [e3]; exact getR_short (by decide) (by show (zs.length : Int) < (10 : Nat) + 8; omega)
    exact getR_no e4
  by_cases hv : fld zs 10 8 < 9223372036854775808
  · have e4 : q4 zs ⟨0, 0, 0⟩ = (fld zs 10 8, ⟨18, 0, 0⟩) := by unfold q4; rw [e3]; exact getR_ok (K := 8) rfl (by decide) (by omega) hv
    have l5 : zs.length < 20 := h.elim id (fun h => absurd hv h)
    unfold q5
    rw [e4]
    exact getR_short (by decide) (by show (zs.length : Int) < (18 : Nat) + 2; omega)
  · have e4 : ¬ (q4 zs ⟨0, 0, 0⟩).2.er = 0 := by unfold q4; rw [e3]; exact getR_great (K := 8) rfl (by decide) (by omega) hv
    exact getR_no e4
theorem getM_fault {zs : List Int} (ho : Octs zs) {v5 : Nat} {s5 u : RS} {L : List Int} (h5 : q5 zs ⟨0, 0, 0⟩ = (v5, s5)) (h : (s5.er = 0 ∧ u = ⟨zs.length, 0, 0⟩ ∧ s5.at_ + 4 * L.length = zs.length ∧ L = quads L.length (zs.drop s5.at_)) ∨ (¬ u.er = 0 ∧ (s5.er = 0 → ¬ (zs.length - s5.at_) % 4 = 0))) (hu : ¬ u.er = 0) : getM zs = (MV.zero, 6) := by
  rcases h with ⟨_, e, _⟩ | ⟨_, hd⟩
  · rw [e] at hu
    exact absurd rfl hu
  · unfold getM
    rw [if_neg]
    rintro ⟨⟨h1, h2⟩, h3, _⟩
    have hy := (head_yes ho h1 (by omega)).2.2.2.2
    rw [h5] at hy
    obtain ⟨_, rfl⟩ := Prod.mk.inj hy
    exact hd rfl (by dsimp only; omega)
theorem run_field0 (x y : Int) (W : World) : (Instr.field 71 (.agg #[.int .i64 x, .int .i64 y]) 0).run Try.prog W = .ok (.int .i64 x) W := by
  simp [Instr.field, asAgg, run_underlying Try.underlying71, go_sem]
theorem got_whole {zs : List Int} (ho : Octs zs) {v1 v2 v3 v4 v5 : Nat} {s1 s2 s3 s4 s5 u : RS} {L : List Int} (h1 : q1 zs ⟨0, 0, 0⟩ = (v1, s1)) (h2 : q2 zs ⟨0, 0, 0⟩ = (v2, s2)) (h3 : q3 zs ⟨0, 0, 0⟩ = (v3, s3)) (h4 : q4 zs ⟨0, 0, 0⟩ = (v4, s4)) (h5 : q5 zs ⟨0, 0, 0⟩ = (v5, s5))
    (h : (s5.er = 0 ∧ u = ⟨zs.length, 0, 0⟩ ∧ s5.at_ + 4 * L.length = zs.length ∧ L = quads L.length (zs.drop s5.at_)) ∨ (¬ u.er = 0 ∧ (s5.er = 0 → ¬ (zs.length - s5.at_) % 4 = 0))) (hu : u.er = 0) :
    u = ⟨zs.length, 0, 0⟩ ∧ 20 + 4 * L.length = zs.length ∧ L = quads L.length (zs.drop 20) ∧ v1 = fld zs 0 4 ∧ v2 = fld zs 4 2 ∧ v3 = fld zs 6 4 ∧ (v4 = fld zs 10 8 ∧ v4 ≤ 9223372036854775807) ∧ v5 = cnt zs := by
  rcases h with ⟨h0, e, hl, hL⟩ | ⟨hn, _⟩
  · have hlen : ¬ zs.length < 20 := fun h => head_no ho (.inl h) (by rw [h5]; exact h0)
    have hv : fld zs 10 8 < 9223372036854775808 := Classical.byContradiction fun h => head_no ho (.inr h) (by rw [h5]; exact h0)
    obtain ⟨y1, y2, y3, y4, y5⟩ := head_yes ho (by omega) hv
    rw [h1] at y1
    rw [h2] at y2
    rw [h3] at y3
    rw [h4] at y4
    rw [h5] at y5
    obtain ⟨rfl, _⟩ := Prod.mk.inj y1
    obtain ⟨rfl, _⟩ := Prod.mk.inj y2
    obtain ⟨rfl, _⟩ := Prod.mk.inj y3
    obtain ⟨rfl, _⟩ := Prod.mk.inj y4
    obtain ⟨rfl, rfl⟩ := Prod.mk.inj y5
    exact ⟨e, hl, hL, rfl, rfl, rfl, ⟨rfl, by omega⟩, rfl⟩
  · exact absurd hu hn
theorem get_whole {zs : List Int} {v1 v2 v3 v4 v5 : Nat} {L : List Int} (hl : 20 + 4 * L.length = zs.length) (hL : L = quads L.length (zs.drop 20)) (h1 : v1 = fld zs 0 4) (h2 : v2 = fld zs 4 2) (h3 : v3 = fld zs 6 4) (h4 : v4 = fld zs 10 8 ∧ v4 ≤ 9223372036854775807) (h5 : v5 = cnt zs) :
    (v5 = L.length → getM zs = if MayM ⟨v1, v2, v3, v4, L⟩ then (⟨v1, v2, v3, v4, L⟩, 0) else (MV.zero, 6)) ∧ (¬ v5 = L.length → getM zs = (MV.zero, 6)) := by
  constructor
  · intro hc
    have hd : docM zs = ⟨v1, v2, v3, v4, L⟩ := by
      unfold docM
      rw [← h1, ← h2, ← h3, ← h4.1, ← h5, hc, ← hL]
    unfold getM
    rw [hd]
    by_cases hM : MayM ⟨v1, v2, v3, v4, L⟩
    · rw [if_pos hM, if_pos ⟨⟨by omega, by rw [← h5]; omega⟩, by rw [← h4.1]; omega, hM⟩]
    · rw [if_neg hM, if_neg (fun h => hM h.2.2)]
  · intro hc
    unfold getM
    rw [if_neg]
    rintro ⟨⟨_, h⟩, _⟩
    rw [← h5] at h
    omega
def GetSaid (q : MV × Int) (w : World) (e : Ending) (w' : World) : Prop := ∃ (a : Option Addr) (n c : Nat), e = .returned (.tuple #[.agg #[.int .i64 q.1.size, .int .i64 q.1.sym, .int .i64 q.1.k, .int .i64 q.1.seed, .slice a n c], .int .i64 q.2]) ∧ Intz w.heap.size w' (.slice a n c) q.1.ts ∧ Below w.heap.size w w'
theorem getM_far {zs : List Int} (h : 40020 < zs.length) : getM zs = (MV.zero, 6) := by
  unfold getM
  rw [if_neg]
  rintro ⟨⟨_, h2⟩, _, hM⟩
  have h5 := hM.2.2.2.2.1
  have : (docM zs).ts.length = cnt zs := by simp [docM, quads]
  omega
theorem zero_said {w w' : World} {e : Ending} (he : e = .returned (.tuple #[.agg #[.int .i64 0, .int .i64 0, .int .i64 0, .int .i64 0, .slice none 0 0], .int .i64 6])) (hb : Below w.heap.size w w') : GetSaid (MV.zero, 6) w e w' := ⟨none, 0, 0, he, Intz.nil _ _, hb⟩
set_option maxRecDepth 100000 in
set_option maxHeartbeats 2000000 in
theorem mfget_far {a : Option Addr} {n c : Nat} {zs : List Int} {lo : Nat} {w : World} (X : Byt lo w (.slice a n c) zs) (h : 40020 < n) :
    Calls Try.prog 23 #[.slice a n c] w (GetSaid (getM zs) w) := by
  rw [getM_far (by have := X.len.1; omega)]
  have hi : 40020 < (n : Int) := by omega
  have HB := hide (below_new w (.cells #[.int .i64 0, .int .i64 0, .int .i64 0, .int .i64 0, .slice none 0 0] 24))
  clear X h
  go_enter Try.func23, Try.ntmps23
  go_wp2
  refine bodyPost_ret (v := .tuple #[.agg #[.int .i64 0, .int .i64 0, .int .i64 0, .int .i64 0, .slice none 0 0], .int .i64 6]) (by simp [results, Try.f23, go_sem]) rfl ?_
  exact zero_said rfl HB.out
structure GM (base lo r cu n d T F m dd Z : Nat) (b g : Option Addr) (zs L : List Int) (s u : RS) (v1 v2 v3 v4 v5 : Nat) (w W : World) : Prop where
  rd : PR lo W r cu b n d zs u
  told : Box W T (.cells #[.int .i64 (v1 : Nat), .int .i64 (v2 : Nat), .int .i64 (v3 : Nat), .int .i64 (v4 : Nat), .int .i64 (v5 : Nat)] 56)
  got : Box W F (.cells #[.int .i64 (v1 : Nat), .int .i64 (v2 : Nat), .int .i64 (v3 : Nat), .int .i64 (v4 : Nat), .slice g m dd] 24)
  ts : Intz (base + 1) W (.slice g m dd) L
  zero : Box W Z (.cells #[.int .i64 0, .int .i64 0, .int .i64 0, .int .i64 0, .slice none 0 0] 24)
  below : Below base w W
  said : (s.er = 0 ∧ u = ⟨zs.length, 0, 0⟩ ∧ s.at_ + 4 * L.length = zs.length ∧ L = quads L.length (zs.drop s.at_)) ∨ (¬ u.er = 0 ∧ (s.er = 0 → ¬ (zs.length - s.at_) % 4 = 0))
theorem PR.drew {lo r c n cap : Nat} {a : Option Addr} {zs : List Int} {s : RS} {A : World} (h : PR lo A r c a n cap zs s) : PR lo A.drew r c a n cap zs s := ⟨Box.drew h.rdr, Box.drew h.cur, h.byt, h.ok, h.small⟩
theorem GMid.late {base lo r cu n d m dd Z : Nat} {b g : Option Addr} {zs L : List Int} {s u : RS} {v1 v2 v3 v4 v5 : Nat} {w w3 w5 : World}
    (hB : Below base w (w3.alloc (.cells #[.int .i64 (v1 : Nat), .int .i64 (v2 : Nat), .int .i64 (v3 : Nat), .int .i64 (v4 : Nat), .int .i64 (v5 : Nat)] 56)))
    (R : Box (w3.alloc (.cells #[.int .i64 (v1 : Nat), .int .i64 (v2 : Nat), .int .i64 (v3 : Nat), .int .i64 (v4 : Nat), .int .i64 (v5 : Nat)] 56)) w3.heap.size (.cells #[.int .i64 (v1 : Nat), .int .i64 (v2 : Nat), .int .i64 (v3 : Nat), .int .i64 (v4 : Nat), .int .i64 (v5 : Nat)] 56))
    (hC : base ≤ cu ∧ cu < w3.heap.size ∧ base ≤ w3.heap.size) (HZ : Box (w3.alloc (.cells #[.int .i64 (v1 : Nat), .int .i64 (v2 : Nat), .int .i64 (v3 : Nat), .int .i64 (v4 : Nat), .int .i64 (v5 : Nat)] 56)) Z (.cells #[.int .i64 0, .int .i64 0, .int .i64 0, .int .i64 0, .slice none 0 0] 24)) (hZ : ¬ Z = cu)
    (I : Intz (w3.alloc (.cells #[.int .i64 (v1 : Nat), .int .i64 (v2 : Nat), .int .i64 (v3 : Nat), .int .i64 (v4 : Nat), .int .i64 (v5 : Nat)] 56)).drew.heap.size w5 (.slice g m dd) L) (P : PR lo w5 r cu b n d zs u)
    (S : Spared (fun k => k = cu) (w3.alloc (.cells #[.int .i64 (v1 : Nat), .int .i64 (v2 : Nat), .int .i64 (v3 : Nat), .int .i64 (v4 : Nat), .int .i64 (v5 : Nat)] 56)).drew w5) :
    Box w5 w3.heap.size (.cells #[.int .i64 (v1 : Nat), .int .i64 (v2 : Nat), .int .i64 (v3 : Nat), .int .i64 (v4 : Nat), .int .i64 (v5 : Nat)] 56) ∧ ∀ _ : True, ((s.er = 0 ∧ u = ⟨zs.length, 0, 0⟩ ∧ s.at_ + 4 * L.length = zs.length ∧ L = quads L.length (zs.drop s.at_)) ∨ (¬ u.er = 0 ∧ (s.er = 0 → ¬ (zs.length - s.at_) % 4 = 0))) →
      GM base lo r cu n d w3.heap.size w5.heap.size m dd Z b g zs L s u v1 v2 v3 v4 v5 w (w5.alloc (.cells #[.int .i64 (v1 : Nat), .int .i64 (v2 : Nat), .int .i64 (v3 : Nat), .int .i64 (v4 : Nat), .slice g m dd] 24)) := by
  have R5 := (Box.drew R).spared S (by omega)
  have B5 := below_new w5 (.cells #[.int .i64 (v1 : Nat), .int .i64 (v2 : Nat), .int .i64 (v3 : Nat), .int .i64 (v4 : Nat), .slice g m dd] 24)
  have hBw : Below base w w5 := (hB.drew).trans (S.to_below (by show base ≤ (w3.alloc _).heap.size; simp; omega) (fun k hk => by omega))
  have hb5 : base ≤ w5.heap.size := by have := R5.lt; omega
  refine ⟨R5, fun _ D => ⟨P.below B5, R5.below B5, Box.new w5 _, (I.mono (by show base + 1 ≤ (w3.alloc _).heap.size; simp; omega)).below B5, ((Box.drew HZ).spared S hZ).below B5, hBw.trans (B5.mono hb5), D⟩⟩
theorem GMid.early {base lo r cu n d m dd Z : Nat} {b g : Option Addr} {zs L : List Int} {s u : RS} {v1 v2 v3 v4 v5 : Nat} {w w3 w5 : World}
    (hB : Below base w (w3.alloc (.cells #[.int .i64 (v1 : Nat), .int .i64 (v2 : Nat), .int .i64 (v3 : Nat), .int .i64 (v4 : Nat), .int .i64 (v5 : Nat)] 56)))
    (R : Box (w3.alloc (.cells #[.int .i64 (v1 : Nat), .int .i64 (v2 : Nat), .int .i64 (v3 : Nat), .int .i64 (v4 : Nat), .int .i64 (v5 : Nat)] 56)) w3.heap.size (.cells #[.int .i64 (v1 : Nat), .int .i64 (v2 : Nat), .int .i64 (v3 : Nat), .int .i64 (v4 : Nat), .int .i64 (v5 : Nat)] 56))
    (hC : base ≤ cu ∧ cu < w3.heap.size ∧ base ≤ w3.heap.size) (HZ : Box (w3.alloc (.cells #[.int .i64 (v1 : Nat), .int .i64 (v2 : Nat), .int .i64 (v3 : Nat), .int .i64 (v4 : Nat), .int .i64 (v5 : Nat)] 56)) Z (.cells #[.int .i64 0, .int .i64 0, .int .i64 0, .int .i64 0, .slice none 0 0] 24)) (hZ : ¬ Z = cu)
    (I : Intz ((w3.alloc (.cells #[.int .i64 (v1 : Nat), .int .i64 (v2 : Nat), .int .i64 (v3 : Nat), .int .i64 (v4 : Nat), .int .i64 (v5 : Nat)] 56)).drew.alloc (.cells #[.int .i64 0, .int .i64 0, .int .i64 0, .int .i64 0, .slice none 0 0] 24)).heap.size w5 (.slice g m dd) L) (P : PR lo w5 r cu b n d zs u)
    (S : Spared (fun k => k = cu) ((w3.alloc (.cells #[.int .i64 (v1 : Nat), .int .i64 (v2 : Nat), .int .i64 (v3 : Nat), .int .i64 (v4 : Nat), .int .i64 (v5 : Nat)] 56)).drew.alloc (.cells #[.int .i64 0, .int .i64 0, .int .i64 0, .int .i64 0, .slice none 0 0] 24)) w5) :
    Box w5 w3.heap.size (.cells #[.int .i64 (v1 : Nat), .int .i64 (v2 : Nat), .int .i64 (v3 : Nat), .int .i64 (v4 : Nat), .int .i64 (v5 : Nat)] 56) ∧ Box w5 (w3.heap.size + 1) (.cells #[.int .i64 0, .int .i64 0, .int .i64 0, .int .i64 0, .slice none 0 0] 24) ∧
    Box (w5.setRow (w3.heap.size + 1) #[.int .i64 (v1 : Nat), .int .i64 (v2 : Nat), .int .i64 (v3 : Nat), .int .i64 (v4 : Nat), .slice g m dd]) w3.heap.size (.cells #[.int .i64 (v1 : Nat), .int .i64 (v2 : Nat), .int .i64 (v3 : Nat), .int .i64 (v4 : Nat), .int .i64 (v5 : Nat)] 56) ∧ ∀ _ : True, ((s.er = 0 ∧ u = ⟨zs.length, 0, 0⟩ ∧ s.at_ + 4 * L.length = zs.length ∧ L = quads L.length (zs.drop s.at_)) ∨ (¬ u.er = 0 ∧ (s.er = 0 → ¬ (zs.length - s.at_) % 4 = 0))) →
      GM base lo r cu n d w3.heap.size (w3.heap.size + 1) m dd Z b g zs L s u v1 v2 v3 v4 v5 w (w5.setRow (w3.heap.size + 1) #[.int .i64 (v1 : Nat), .int .i64 (v2 : Nat), .int .i64 (v3 : Nat), .int .i64 (v4 : Nat), .slice g m dd]) := by
  have B4 := below_new (w3.alloc (.cells #[.int .i64 (v1 : Nat), .int .i64 (v2 : Nat), .int .i64 (v3 : Nat), .int .i64 (v4 : Nat), .int .i64 (v5 : Nat)] 56)).drew (.cells #[.int .i64 0, .int .i64 0, .int .i64 0, .int .i64 0, .slice none 0 0] 24)
  have F4 := Box.put (w := (w3.alloc (.cells #[.int .i64 (v1 : Nat), .int .i64 (v2 : Nat), .int .i64 (v3 : Nat), .int .i64 (v4 : Nat), .int .i64 (v5 : Nat)] 56)).drew) (k := w3.heap.size + 1) (.cells #[.int .i64 0, .int .i64 0, .int .i64 0, .int .i64 0, .slice none 0 0] 24) (by show (w3.alloc _).heap.size = _; simp)
  have hsz : ((w3.alloc (.cells #[.int .i64 (v1 : Nat), .int .i64 (v2 : Nat), .int .i64 (v3 : Nat), .int .i64 (v4 : Nat), .int .i64 (v5 : Nat)] 56)).drew.alloc (.cells #[.int .i64 0, .int .i64 0, .int .i64 0, .int .i64 0, .slice none 0 0] 24)).heap.size = w3.heap.size + 2 := by simp [World.drew]
  have hb4 : base ≤ (w3.alloc (.cells #[.int .i64 (v1 : Nat), .int .i64 (v2 : Nat), .int .i64 (v3 : Nat), .int .i64 (v4 : Nat), .int .i64 (v5 : Nat)] 56)).drew.heap.size := by show base ≤ (w3.alloc _).heap.size; simp; omega
  have R5 := ((Box.drew R).below B4).spared S (by omega)
  have F5 := F4.spared S (by omega)
  have hBw : Below base w w5 := ((hB.drew).trans (B4.mono hb4)).trans (S.to_below (by omega) (fun k hk => by omega))
  have F6 := F5.setRow #[.int .i64 (v1 : Nat), .int .i64 (v2 : Nat), .int .i64 (v3 : Nat), .int .i64 (v4 : Nat), .slice g m dd]
  have R6 := R5.row_other (by omega : w3.heap.size ≠ w3.heap.size + 1) #[.int .i64 (v1 : Nat), .int .i64 (v2 : Nat), .int .i64 (v3 : Nat), .int .i64 (v4 : Nat), .slice g m dd]
  have SR : Spared (fun k => k = w3.heap.size + 1) w5 (w5.setRow (w3.heap.size + 1) #[.int .i64 (v1 : Nat), .int .i64 (v2 : Nat), .int .i64 (v3 : Nat), .int .i64 (v4 : Nat), .slice g m dd]) := ⟨below_setRow (Below.refl _ _) (Nat.zero_le _) _, fun k hk hf => setRow_other _ _ _ _ hf⟩
  refine ⟨R5, F5, R6, fun _ D => ⟨P.aside F5 (by decide) (by decide) (fun i x h => by
    match i with
    | 0 => simp at h
    | 1 => simp at h
    | 2 => simp at h
    | 3 => simp at h
    | 4 => simp at h
    | i + 5 => simp at h) SR, R6, F6, ?_, (((Box.drew HZ).below B4).spared S hZ).row_other (by have := HZ.lt; simp at this; omega) _, below_setRow hBw (by omega) _, D⟩⟩
  exact (I.above (fun k hk => setRow_other _ _ _ _ (by rw [hsz] at hk; omega)) (by simp)).mono (by rw [hsz]; omega)
set_option maxRecDepth 100000 in
set_option maxHeartbeats 4000000 in
theorem mfget_near {a : Option Addr} {n c : Nat} {zs : List Int} {lo : Nat} {w : World} (X : Byt lo w (.slice a n c) zs) (h : ¬ 40020 < n) :
    Calls Try.prog 23 #[.slice a n c] w (GetSaid (getM zs) w) := by
  have hi : ¬ 40020 < (n : Int) := by omega
  have B1 := below_new w (.cells #[.int .i64 0, .int .i64 0, .int .i64 0, .int .i64 0, .slice none 0 0] 24)
  have R1 := Box.new w (.cells #[.int .i64 0, .int .i64 0, .int .i64 0, .int .i64 0, .slice none 0 0] 24)
  have hnr := onewr_any (X.below B1) (by omega)
  have HX := hide X
  have HB := hide B1
  have HR := hide R1
  clear X h B1 R1
  go_enter Try.func23, Try.ntmps23
  go_wp2_with fail
  refine hnr.mono ?_
  rintro e w2 ⟨r, cu, b, d, rfl, P2, hr, hcu, b2⟩
  have hh := mfrhead_any P2
  have HCU := hide (Nat.le_of_lt (Nat.lt_of_lt_of_le HR.out.lt hcu))
  have HCL := hide P2.cur.lt
  have HRZ := hide (HR.out.below b2)
  have HZC := hide (Nat.ne_of_lt (Nat.lt_of_lt_of_le HR.out.lt hcu))
  have HB2 := hide (HB.out.trans (b2.mono HB.out.size))
  have HSZ2 := hide (Nat.lt_of_lt_of_le HR.out.lt b2.size)
  clear hnr P2 hr hcu b2 HR HB
  obtain ⟨⟨v1, s1⟩, e1⟩ : ∃ q, q1 zs ⟨0, 0, 0⟩ = q := ⟨_, rfl⟩
  obtain ⟨⟨v2, s2⟩, e2⟩ : ∃ q, q2 zs ⟨0, 0, 0⟩ = q := ⟨_, rfl⟩
  obtain ⟨⟨v3, s3⟩, e3⟩ : ∃ q, q3 zs ⟨0, 0, 0⟩ = q := ⟨_, rfl⟩
  obtain ⟨⟨v4, s4⟩, e4⟩ : ∃ q, q4 zs ⟨0, 0, 0⟩ = q := ⟨_, rfl⟩
  obtain ⟨⟨v5, s5⟩, e5⟩ : ∃ q, q5 zs ⟨0, 0, 0⟩ = q := ⟨_, rfl⟩
  rw [e1, e2, e3, e4, e5] at hh
  have HE1 := hide e1
  have HE2 := hide e2
  have HE3 := hide e3
  have HE4 := hide e4
  have HE5 := hide e5
  clear e1 e2 e3 e4 e5
  dsimp only at hh
  go_wp2_with fail
  refine hh.mono ?_
  rintro e w3 ⟨rfl, P3, S3⟩
  have B4 := below_new w3 (.cells #[.int .i64 (v1 : Nat), .int .i64 (v2 : Nat), .int .i64 (v3 : Nat), .int .i64 (v4 : Nat), .int .i64 (v5 : Nat)] 56)
  have HR4 := hide (Box.new w3 (.cells #[.int .i64 (v1 : Nat), .int .i64 (v2 : Nat), .int .i64 (v3 : Nat), .int .i64 (v4 : Nat), .int .i64 (v5 : Nat)] 56))
  have HP4 := hide (P3.below B4)
  have hB3 : Below w.heap.size w w3 := HB2.out.trans (S3.to_below (Nat.le_of_lt HSZ2.out) (fun k hk => by have := HCU.out; omega))
  have HB4 := hide (hB3.trans (B4.mono hB3.size))
  have HRZ4 := hide ((HRZ.out.spared S3 (fun e => HZC.out e)).below B4)
  have HCT : Hid (w.heap.size ≤ cu ∧ cu < w3.heap.size ∧ w.heap.size ≤ w3.heap.size) := ⟨HCU.out, P3.cur.lt, hB3.size⟩
  have HK : Hid (∀ W : World, Box W w3.heap.size (.cells #[.int .i64 (v1 : Nat), .int .i64 (v2 : Nat), .int .i64 (v3 : Nat), .int .i64 (v4 : Nat), .int .i64 (v5 : Nat)] 56) → W.cell? ⟨w3.heap.size, 0, none⟩ = some (.int .i64 (v1 : Nat)) ∧ W.cell? ⟨w3.heap.size, 1, none⟩ = some (.int .i64 (v2 : Nat)) ∧ W.cell? ⟨w3.heap.size, 2, none⟩ = some (.int .i64 (v3 : Nat)) ∧ W.cell? ⟨w3.heap.size, 3, none⟩ = some (.int .i64 (v4 : Nat))) := fun W hW => by
    obtain ⟨c0, c1, c2, c3, _⟩ := five_of hW
    exact ⟨c0, c1, c2, c3⟩
  have HT : Hid (∀ W : World, PR (w.alloc (.cells #[.int .i64 0, .int .i64 0, .int .i64 0, .int .i64 0, .slice none 0 0] 24)).heap.size W r cu b n d zs s5 → Calls Try.prog 45 #[.pointer (some ⟨r, 0, none⟩)] W fun e w' => ∃ (g : Option Addr) (m d' : Nat) (L : List Int) (u : RS), e = .returned (.slice g m d') ∧ Intz W.heap.size w' (.slice g m d') L ∧ PR (w.alloc (.cells #[.int .i64 0, .int .i64 0, .int .i64 0, .int .i64 0, .slice none 0 0] 24)).heap.size w' r cu b n d zs u ∧ Spared (fun k => k = cu) W w' ∧ ((s5.er = 0 ∧ u = ⟨zs.length, 0, 0⟩ ∧ s5.at_ + 4 * L.length = zs.length ∧ L = quads L.length (zs.drop s5.at_)) ∨ (¬ u.er = 0 ∧ (s5.er = 0 → ¬ (zs.length - s5.at_) % 4 = 0)))) := fun W hW => mfrtab_any hW
  have HZC4 : Hid (¬ w.heap.size = cu) := HZC.out
  clear hh P3 S3 B4 hB3 HB2 HRZ HSZ2 HCU HCL HZC
  go_wp2_with fail
  apply leaf
  · intro HEND
    refine wp_region_held_drew (S := fun W : World => W.cell? ⟨w3.heap.size, 0, none⟩ = some (.int .i64 (v1 : Nat)) ∧ W.cell? ⟨w3.heap.size, 1, none⟩ = some (.int .i64 (v2 : Nat)) ∧ W.cell? ⟨w3.heap.size, 2, none⟩ = some (.int .i64 (v3 : Nat)) ∧ W.cell? ⟨w3.heap.size, 3, none⟩ = some (.int .i64 (v4 : Nat))) (by kernel_rfl) (HK.out _ HR4.out.drew) (fun hHeld => ?_)
    refine wpAnyH_take (i := 0) (v := ?_) rfl (by kernel_rfl) (by kernel_rfl) (by kernel_rfl) (fun _ _ _ h => h) (Or.inl ⟨by rfl, ?_⟩) (by assumption) ?_
    rotate_left
    · intro w hSw
      try dsimp only at hSw
      go_simp
      try with_reducible rfl
    simp only [Act.put, List.setIfInBounds_toArray, List.set_cons_zero, List.set_cons_succ, List.getElem_toArray, List.getElem_cons_zero]
    refine wpAnyH_take (i := 1) (v := ?_) rfl (by kernel_rfl) (by kernel_rfl) (by kernel_rfl) (fun _ _ _ h => h) (Or.inl ⟨by rfl, ?_⟩) (by assumption) ?_
    rotate_left
    · intro w hSw
      try dsimp only at hSw
      go_simp
      try with_reducible rfl
    simp only [Act.put, List.setIfInBounds_toArray, List.set_cons_zero, List.set_cons_succ, List.getElem_toArray, List.getElem_cons_zero, List.getElem_cons_succ]
    refine wpAnyH_take (i := 2) (v := ?_) rfl (by kernel_rfl) (by kernel_rfl) (by kernel_rfl) (fun _ _ _ h => h) (Or.inl ⟨by rfl, ?_⟩) (by assumption) ?_
    rotate_left
    · intro w hSw
      try dsimp only at hSw
      go_simp
      try with_reducible rfl
    simp only [Act.put, List.setIfInBounds_toArray, List.set_cons_zero, List.set_cons_succ, List.getElem_toArray, List.getElem_cons_zero, List.getElem_cons_succ]
    refine wpAnyH_take (i := 3) (v := ?_) rfl (by kernel_rfl) (by kernel_rfl) (by kernel_rfl) (fun _ _ _ h => h) (Or.inl ⟨by rfl, ?_⟩) (by assumption) ?_
    rotate_left
    · intro w hSw
      try dsimp only at hSw
      go_simp
      try with_reducible rfl
    simp only [Act.put, List.setIfInBounds_toArray, List.set_cons_zero, List.set_cons_succ, List.getElem_toArray, List.getElem_cons_zero, List.getElem_cons_succ]
    refine wpAnyH_take (i := 4) (v := ?_) rfl (by kernel_rfl) (by kernel_rfl) (by kernel_rfl) (fun _ _ _ h => h) (Or.inl ⟨by rfl, ?_⟩) (by assumption) ?_
    rotate_left
    · intro w hSw
      try dsimp only at hSw
      go_simp
      try with_reducible rfl
    simp only [Act.put, List.setIfInBounds_toArray, List.set_cons_zero, List.set_cons_succ, List.getElem_toArray, List.getElem_cons_zero, List.getElem_cons_succ]
    refine wpAnyH_take (i := 5) (v := ?_) rfl (by kernel_rfl) (by kernel_rfl) (by kernel_rfl) (fun _ _ _ h => h) (Or.inl ⟨by rfl, ?_⟩) (by assumption) ?_
    rotate_left
    · intro w hSw
      try dsimp only at hSw
      go_simp
      try with_reducible rfl
    simp only [Act.put, List.setIfInBounds_toArray, List.set_cons_zero, List.set_cons_succ, List.getElem_toArray, List.getElem_cons_zero, List.getElem_cons_succ]
    refine wpAnyH_take (i := 6) (v := ?_) rfl (by kernel_rfl) (by kernel_rfl) (by kernel_rfl) (fun _ _ _ h => h) (Or.inl ⟨by rfl, ?_⟩) (by assumption) ?_
    rotate_left
    · intro w hSw
      try dsimp only at hSw
      go_simp
      try with_reducible rfl
    simp only [Act.put, List.setIfInBounds_toArray, List.set_cons_zero, List.set_cons_succ, List.getElem_toArray, List.getElem_cons_zero, List.getElem_cons_succ]
    refine wpAnyH_take (i := 7) (v := ?_) rfl (by kernel_rfl) (by kernel_rfl) (by kernel_rfl) (fun _ _ _ h => h) (Or.inl ⟨by rfl, ?_⟩) (by assumption) ?_
    rotate_left
    · intro w hSw
      try dsimp only at hSw
      go_simp
      try with_reducible rfl
    simp only [Act.put, List.setIfInBounds_toArray, List.set_cons_zero, List.set_cons_succ, List.getElem_toArray, List.getElem_cons_zero, List.getElem_cons_succ]
    refine wpAnyH_take (i := 8) (v := ?_) rfl (by kernel_rfl) (by kernel_rfl) (by kernel_rfl) (fun _ _ _ h => h) (Or.inl ⟨by rfl, ?_⟩) (by assumption) ?_
    rotate_left
    · intro w hSw
      try dsimp only at hSw
      go_simp
      try with_reducible rfl
    simp only [Act.put, List.setIfInBounds_toArray, List.set_cons_zero, List.set_cons_succ, List.getElem_toArray, List.getElem_cons_zero, List.getElem_cons_succ]
    refine wpAnyH_ready (rs := [9, 11]) (by kernel_rfl) (by simp) ?_
    refine AllReadyH.cons rfl (fun K hK => ?_) (AllReadyH.cons rfl (fun K hK => ?_) AllReadyH.nil)
    · skip
      go_simp
      go_at_call 45
      refine (HT.out _ HP4.out.drew).mono ?_
      rintro e w5 ⟨g, m, dd, L, u, rfl, I5, P5, S5, D5⟩
      dsimp only
      have hmid := GMid.late (s := s5) HB4.out HR4.out (HCT.out) HRZ4.out HZC4.out I5 P5 S5
      clear hHeld
      refine hK.out _ _ (HK.out _ (hmid.1)) (fun hHeld => ?_)
      clear hK K
      try simp only [Act.put, List.setIfInBounds_toArray, List.set_cons_zero, List.set_cons_succ, List.getElem_toArray, List.getElem_cons_zero, List.getElem_cons_succ]
      refine wpAnyH_take (i := 10) (v := ?_) rfl (by kernel_rfl) (by kernel_rfl) (by kernel_rfl) (fun _ _ _ h => h) (Or.inl ⟨by rfl, ?_⟩) (by assumption) ?_
      rotate_left
      · intro w hSw
        try dsimp only at hSw
        go_simp
        try with_reducible rfl
      simp only [Act.put, List.setIfInBounds_toArray, List.set_cons_zero, List.set_cons_succ, List.getElem_toArray, List.getElem_cons_zero, List.getElem_cons_succ]
      refine wpAnyH_ready (rs := [11]) (by kernel_rfl) (by simp) ?_
      refine AllReadyH.cons rfl (fun K hK => ?_) AllReadyH.nil
      go_simp
      try dsimp only
      clear hHeld
      refine hK.out _ _ (HK.out _ (hmid.1.below (below_new w5 _))) (fun hHeld => ?_)
      clear hK K
      try simp only [Act.put, List.setIfInBounds_toArray, List.set_cons_zero, List.set_cons_succ, List.getElem_toArray, List.getElem_cons_zero, List.getElem_cons_succ]
      refine wpAnyH_ready (rs := [12]) (by kernel_rfl) (by simp) ?_
      refine AllReadyH.cons rfl (fun K hK => ?_) AllReadyH.nil
      go_simp
      try dsimp only
      clear hHeld
      refine hK.out _ _ (HK.out _ (hmid.1.below (below_new w5 _))) (fun hHeld => ?_)
      clear hK K
      try simp only [Act.put, List.setIfInBounds_toArray, List.set_cons_zero, List.set_cons_succ, List.getElem_toArray, List.getElem_cons_zero, List.getElem_cons_succ]
      refine wpAnyH_done (by kernel_rfl) ?_ _
      clear hHeld
      have hg := hmid.2 trivial D5
      clear hmid I5 P5 S5 D5
      revert hg
      generalize w5.alloc (.cells #[.int .i64 (v1 : Nat), .int .i64 (v2 : Nat), .int .i64 (v3 : Nat), .int .i64 (v4 : Nat), .slice g m dd] 24) = W
      generalize w5.heap.size = F
      revert g m dd L u W F
      exact HEND
    · skip
      go_simp
      try dsimp only
      clear hHeld
      refine hK.out _ _ (HK.out _ (HR4.out.drew.below (below_new _ _))) (fun hHeld => ?_)
      clear hK K
      try simp only [Act.put, List.setIfInBounds_toArray, List.set_cons_zero, List.set_cons_succ, List.getElem_toArray, List.getElem_cons_zero, List.getElem_cons_succ]
      refine wpAnyH_ready (rs := [9]) (by kernel_rfl) (by simp) ?_
      refine AllReadyH.cons rfl (fun K hK => ?_) AllReadyH.nil
      go_simp
      go_at_call 45
      refine (HT.out _ (HP4.out.drew.below (below_new _ _))).mono ?_
      rintro e w5 ⟨g, m, dd, L, u, rfl, I5, P5, S5, D5⟩
      dsimp only
      have hmid := GMid.early (s := s5) HB4.out HR4.out (HCT.out) HRZ4.out HZC4.out I5 P5 S5
      clear hHeld
      refine hK.out _ _ (HK.out _ (hmid.1)) (fun hHeld => ?_)
      clear hK K
      try simp only [Act.put, List.setIfInBounds_toArray, List.set_cons_zero, List.set_cons_succ, List.getElem_toArray, List.getElem_cons_zero, List.getElem_cons_succ]
      refine wpAnyH_take (i := 10) (v := ?_) rfl (by kernel_rfl) (by kernel_rfl) (by kernel_rfl) (fun _ _ _ h => h) (Or.inl ⟨by rfl, ?_⟩) (by assumption) ?_
      rotate_left
      · intro w hSw
        try dsimp only at hSw
        go_simp
        try with_reducible rfl
      simp only [Act.put, List.setIfInBounds_toArray, List.set_cons_zero, List.set_cons_succ, List.getElem_toArray, List.getElem_cons_zero, List.getElem_cons_succ]
      refine wpAnyH_ready (rs := [12]) (by kernel_rfl) (by simp) ?_
      refine AllReadyH.cons rfl (fun K hK => ?_) AllReadyH.nil
      refine wp_store_row _ _ _ rfl (w3.heap.size + 1) #[.int .i64 (v1 : Nat), .int .i64 (v2 : Nat), .int .i64 (v3 : Nat), .int .i64 (v4 : Nat), .slice g m dd] rfl rfl 24 _ hmid.2.1.what (by kernel_rfl) rfl (by kernel_rfl) ?_
      clear hHeld
      refine hK.out _ _ (HK.out _ hmid.2.2.1) (fun hHeld => ?_)
      clear hK K
      try simp only [Act.put]
      refine wpAnyH_done (by kernel_rfl) ?_ _
      clear hHeld
      have hg := hmid.2.2.2 trivial D5
      clear hmid I5 P5 S5 D5
      revert hg
      generalize w5.setRow (w3.heap.size + 1) #[.int .i64 (v1 : Nat), .int .i64 (v2 : Nat), .int .i64 (v3 : Nat), .int .i64 (v4 : Nat), .slice g m dd] = W
      generalize w3.heap.size + 1 = F
      revert g m dd L u W F
      exact HEND
  · intro g m dd L u W F hg
    have hRZ := HRZ4.out
    have HGM := hide hg
    have HEnd : Hid (∀ V : World, Below W.heap.size W V → Calls Try.prog 46 #[.pointer (some ⟨r, 0, none⟩)] V fun e w' => e = .returned (.agg #[.int .i64 (endR zs u).1, .int .i64 (endR zs u).2]) ∧ Below V.heap.size V w') := fun V hV => oend_any (hg.rd.below hV)
    have HHd : Hid (∀ V : World, Calls Try.prog 31 #[.agg #[.int .i64 (v1 : Nat), .int .i64 (v2 : Nat), .int .i64 (v3 : Nat), .int .i64 (v4 : Nat), .slice g m dd]] V fun e w' => e = .returned (.agg #[.int .i64 (v1 : Nat), .int .i64 (v2 : Nat), .int .i64 (v3 : Nat), .int .i64 (v4 : Nat), .int .i64 (m : Nat)]) ∧ Below V.heap.size V w') := fun V => mfhead_any v1 v2 v3 v4 g m dd V
    have HChk : Hid (∀ V : World, Below W.heap.size W V → Calls Try.prog 16 #[.agg #[.int .i64 (v1 : Nat), .int .i64 (v2 : Nat), .int .i64 (v3 : Nat), .int .i64 (v4 : Nat), .slice g m dd]] V fun e w' => e = .returned (.int .i64 (checkM ⟨v1, v2, v3, v4, L⟩)) ∧ Below V.heap.size V w') := fun V hV => mfcheck_any v1 v2 v3 v4 g m dd L V (hg.ts.below hV)
    have HKG : Hid (∀ V : World, Below W.heap.size W V → (fun V : World => V.cell? ⟨F, 0, none⟩ = some (.int .i64 (v1 : Nat)) ∧ V.cell? ⟨F, 1, none⟩ = some (.int .i64 (v2 : Nat)) ∧ V.cell? ⟨F, 2, none⟩ = some (.int .i64 (v3 : Nat)) ∧ V.cell? ⟨F, 3, none⟩ = some (.int .i64 (v4 : Nat)) ∧ V.cell? ⟨F, 4, none⟩ = some (.slice g m dd) ∧ V.cell? ⟨w3.heap.size, 0, none⟩ = some (.int .i64 (v1 : Nat)) ∧ V.cell? ⟨w3.heap.size, 1, none⟩ = some (.int .i64 (v2 : Nat)) ∧ V.cell? ⟨w3.heap.size, 2, none⟩ = some (.int .i64 (v3 : Nat)) ∧ V.cell? ⟨w3.heap.size, 3, none⟩ = some (.int .i64 (v4 : Nat)) ∧ V.cell? ⟨w3.heap.size, 4, none⟩ = some (.int .i64 (v5 : Nat))) V) := fun V hV => by
      obtain ⟨a0, a1, a2, a3, a4⟩ := five_of (hg.got.below hV)
      obtain ⟨b0, b1, b2, b3, b4⟩ := five_of (hg.told.below hV)
      exact ⟨a0, a1, a2, a3, a4, b0, b1, b2, b3, b4⟩
    have hr := (Below.refl W.heap.size W).drew
    have hm := hg.ts.len.1
    have hres : Hid (∀ V : World, Below W.heap.size W V → Box V w.heap.size (.cells #[.int .i64 0, .int .i64 0, .int .i64 0, .int .i64 0, .slice none 0 0] 24) ∧ Below w.heap.size w V) := fun V hV => ⟨hg.zero.below hV, hg.below.trans (hV.mono (by have := hg.below.size; omega))⟩
    clear hg
    by_cases hu : u.er = 0
    · obtain ⟨hhd, h20, hL, hv1, hv2, hv3, hv4, hv5⟩ := got_whole HX.out.words HE1.out HE2.out HE3.out HE4.out HE5.out HGM.out.said hu
      have hq : endR zs u = (0, 0) := by rw [hhd]; exact if_neg (fun h => Nat.lt_irrefl _ h.2)
      rw [hq] at HEnd
      dsimp only at HEnd
      have hfd := run_field0 0 0
      clear hq
      by_cases hc : m = v5
      · have hce : ((m : Int) == (v5 : Int)) = true := by rw [hc]; exact beq_self_eq_true _
        have hg1 := (get_whole h20 hL hv1 hv2 hv3 hv4 hv5).1 (by omega)
        clear hu hhd h20 hL hv1 hv2 hv3 hv4 hv5 hm hc
        by_cases hM : MayM ⟨v1, v2, v3, v4, L⟩
        · rw [if_pos hM] at hg1
          rw [checkM_yes hM] at HChk
          have HG1 := hide hg1
          clear hg1 hM
          go_wp2_with fail
          have t0 : Hid True := trivial
          go_region_held3 (fun V : World => V.cell? ⟨F, 0, none⟩ = some (.int .i64 (v1 : Nat)) ∧ V.cell? ⟨F, 1, none⟩ = some (.int .i64 (v2 : Nat)) ∧ V.cell? ⟨F, 2, none⟩ = some (.int .i64 (v3 : Nat)) ∧ V.cell? ⟨F, 3, none⟩ = some (.int .i64 (v4 : Nat)) ∧ V.cell? ⟨F, 4, none⟩ = some (.slice g m dd) ∧ V.cell? ⟨w3.heap.size, 0, none⟩ = some (.int .i64 (v1 : Nat)) ∧ V.cell? ⟨w3.heap.size, 1, none⟩ = some (.int .i64 (v2 : Nat)) ∧ V.cell? ⟨w3.heap.size, 2, none⟩ = some (.int .i64 (v3 : Nat)) ∧ V.cell? ⟨w3.heap.size, 3, none⟩ = some (.int .i64 (v4 : Nat)) ∧ V.cell? ⟨w3.heap.size, 4, none⟩ = some (.int .i64 (v5 : Nat))) (exact HKG.out _ hr)
            (first
            | (clear t0
               go_at_call 46
               refine (HEnd.out _ hr).mono ?_
               rintro e y0 ⟨rfl, hb⟩
               replace hr := hr.trans (hb.mono hr.size)
               clear hb
               have t1 : Hid True := trivial)
            | (clear t1
               go_at_call 31
               refine (HHd.out _).mono ?_
               rintro e y1 ⟨rfl, hb⟩
               replace hr := hr.trans (hb.mono hr.size)
               clear hb
               have t2 : Hid True := trivial)
            | (clear t2
               go_at_call 16
               refine (HChk.out _ hr).mono ?_
               rintro e y2 ⟨rfl, hb⟩
               replace hr := hr.trans (hb.mono hr.size)
               clear hb
               have t3 : Hid True := trivial))
          all_goals
            have HRB := hide (hres.out _ hr)
            have HTS := hide (HGM.out.ts.below hr)
            obtain ⟨a0, a1, a2, a3, a4, _⟩ := HKG.out _ hr
            clear hr HEnd HHd HChk HKG hfd hce t3
            go_wp2_with (refine wpList_store_row rfl 24 (.tmp 2) (.tmp 42) rfl w.heap.size #[.int .i64 (v1 : Nat), .int .i64 (v2 : Nat), .int .i64 (v3 : Nat), .int .i64 (v4 : Nat), .slice g m dd] rfl rfl 24 _ HRB.out.1.what (by kernel_rfl) rfl (by kernel_rfl) ?_)
            have HV3 := HRB.out.1.setRow #[.int .i64 (v1 : Nat), .int .i64 (v2 : Nat), .int .i64 (v3 : Nat), .int .i64 (v4 : Nat), .slice g m dd]
            obtain ⟨g0, g1, g2, g3, g4⟩ := five_of HV3
            refine bodyPost_ret (v := .tuple #[.agg #[.int .i64 (v1 : Nat), .int .i64 (v2 : Nat), .int .i64 (v3 : Nat), .int .i64 (v4 : Nat), .slice g m dd], .int .i64 0]) (by simp [results, Try.f23, go_sem, g0, g1, g2, g3, g4]) rfl ?_
            rw [HG1.out]
            exact ⟨g, m, dd, rfl, (HTS.out.above (fun k hk => setRow_other _ _ _ _ (by omega)) (by simp)).mono (Nat.le_succ _), below_setRow HRB.out.2 (Nat.le_refl _) _⟩
        · rw [if_neg hM] at hg1
          rw [checkM_no hM] at HChk
          have HZZ := hide hg1
          clear hg1 hM
          go_wp2_with fail
          have t0 : Hid True := trivial
          go_region_held3 (fun V : World => V.cell? ⟨F, 0, none⟩ = some (.int .i64 (v1 : Nat)) ∧ V.cell? ⟨F, 1, none⟩ = some (.int .i64 (v2 : Nat)) ∧ V.cell? ⟨F, 2, none⟩ = some (.int .i64 (v3 : Nat)) ∧ V.cell? ⟨F, 3, none⟩ = some (.int .i64 (v4 : Nat)) ∧ V.cell? ⟨F, 4, none⟩ = some (.slice g m dd) ∧ V.cell? ⟨w3.heap.size, 0, none⟩ = some (.int .i64 (v1 : Nat)) ∧ V.cell? ⟨w3.heap.size, 1, none⟩ = some (.int .i64 (v2 : Nat)) ∧ V.cell? ⟨w3.heap.size, 2, none⟩ = some (.int .i64 (v3 : Nat)) ∧ V.cell? ⟨w3.heap.size, 3, none⟩ = some (.int .i64 (v4 : Nat)) ∧ V.cell? ⟨w3.heap.size, 4, none⟩ = some (.int .i64 (v5 : Nat))) (exact HKG.out _ hr)
            (first
            | (clear t0
               go_at_call 46
               refine (HEnd.out _ hr).mono ?_
               rintro e y0 ⟨rfl, hb⟩
               replace hr := hr.trans (hb.mono hr.size)
               clear hb
               have t1 : Hid True := trivial)
            | (clear t1
               go_at_call 31
               refine (HHd.out _).mono ?_
               rintro e y1 ⟨rfl, hb⟩
               replace hr := hr.trans (hb.mono hr.size)
               clear hb
               have t2 : Hid True := trivial)
            | (clear t2
               go_at_call 16
               refine (HChk.out _ hr).mono ?_
               rintro e y2 ⟨rfl, hb⟩
               replace hr := hr.trans (hb.mono hr.size)
               clear hb
               have t3 : Hid True := trivial))
          all_goals
            have HRB := hide (hres.out _ hr)
            clear hr HEnd HHd HChk HKG hfd hce t3
            go_wp2_with (refine wpList_store_row rfl 24 (.tmp 2) (.tmp 41) rfl w.heap.size #[.int .i64 0, .int .i64 0, .int .i64 0, .int .i64 0, .slice none 0 0] rfl rfl 24 _ HRB.out.1.what (by kernel_rfl) rfl (by kernel_rfl) ?_)
            have HV3 := HRB.out.1.setRow #[.int .i64 0, .int .i64 0, .int .i64 0, .int .i64 0, .slice none 0 0]
            obtain ⟨g0, g1, g2, g3, g4⟩ := five_of HV3
            refine bodyPost_ret (v := .tuple #[.agg #[.int .i64 0, .int .i64 0, .int .i64 0, .int .i64 0, .slice none 0 0], .int .i64 6]) (by simp [results, Try.f23, go_sem, g0, g1, g2, g3, g4]) rfl ?_
            rw [HZZ.out]
            exact zero_said rfl (below_setRow HRB.out.2 (Nat.le_refl _) _)
      · have hz : getM zs = (MV.zero, 6) := (get_whole h20 hL hv1 hv2 hv3 hv4 hv5).2 (fun e => hc (by omega))
        have HZZ := hide hz
        have hne : ((m : Int) == (v5 : Int)) = false := by simp; omega
        clear hz hc hu hhd h20 hL hv1 hv2 hv3 hv4 hv5 hm
        go_wp2_with fail
        refine wp_region_held_drew (S := fun V : World => V.cell? ⟨F, 0, none⟩ = some (.int .i64 (v1 : Nat)) ∧ V.cell? ⟨F, 1, none⟩ = some (.int .i64 (v2 : Nat)) ∧ V.cell? ⟨F, 2, none⟩ = some (.int .i64 (v3 : Nat)) ∧ V.cell? ⟨F, 3, none⟩ = some (.int .i64 (v4 : Nat)) ∧ V.cell? ⟨F, 4, none⟩ = some (.slice g m dd) ∧ V.cell? ⟨w3.heap.size, 0, none⟩ = some (.int .i64 (v1 : Nat)) ∧ V.cell? ⟨w3.heap.size, 1, none⟩ = some (.int .i64 (v2 : Nat)) ∧ V.cell? ⟨w3.heap.size, 2, none⟩ = some (.int .i64 (v3 : Nat)) ∧ V.cell? ⟨w3.heap.size, 3, none⟩ = some (.int .i64 (v4 : Nat)) ∧ V.cell? ⟨w3.heap.size, 4, none⟩ = some (.int .i64 (v5 : Nat))) (by kernel_rfl) (HKG.out _ hr) (fun hHeld => ?_)
        refine wpAnyH_take (i := 0) (v := ?_) rfl (by kernel_rfl) (by kernel_rfl) (by kernel_rfl) (fun _ _ _ h => h) (Or.inl ⟨by rfl, ?_⟩) (by assumption) ?_
        rotate_left
        · intro w hSw
          try dsimp only at hSw
          go_simp
          try with_reducible rfl
        simp only [Act.put, List.setIfInBounds_toArray, List.set_cons_zero, List.set_cons_succ, List.getElem_toArray, List.getElem_cons_zero]
        refine wpAnyH_ready (rs := [1]) (by kernel_rfl) (by simp) ?_
        refine AllReadyH.cons rfl (fun K hK => ?_) AllReadyH.nil
        go_simp
        go_at_call 46
        refine (HEnd.out _ hr).mono ?_
        rintro e v0 ⟨rfl, hb⟩
        replace hr := hr.trans (hb.mono hr.size)
        clear hb
        dsimp only
        clear hHeld
        refine hK.out _ _ (HKG.out _ hr) (fun hHeld => ?_)
        clear hK K
        try simp only [Act.put, List.setIfInBounds_toArray, List.set_cons_zero, List.set_cons_succ, List.getElem_toArray, List.getElem_cons_zero, List.getElem_cons_succ]
        refine wpAnyH_take (i := 2) (v := ?_) rfl (by kernel_rfl) (by kernel_rfl) (by kernel_rfl) (fun _ _ _ h => h) (Or.inl ⟨by rfl, ?_⟩) (by assumption) ?_
        rotate_left
        · intro w hSw
          try dsimp only at hSw
          go_simp
          try with_reducible rfl
        simp only [Act.put, List.setIfInBounds_toArray, List.set_cons_zero, List.set_cons_succ, List.getElem_toArray, List.getElem_cons_zero, List.getElem_cons_succ]
        refine wpAnyH_take (i := 3) (v := ?_) rfl (by kernel_rfl) (by kernel_rfl) (by kernel_rfl) (fun _ _ _ h => h) (Or.inl ⟨by rfl, ?_⟩) (by assumption) ?_
        rotate_left
        · intro w hSw
          try dsimp only at hSw
          go_simp
          try with_reducible rfl
        simp only [Act.put, List.setIfInBounds_toArray, List.set_cons_zero, List.set_cons_succ, List.getElem_toArray, List.getElem_cons_zero, List.getElem_cons_succ]
        refine wpAnyH_take (i := 4) (v := ?_) rfl (by kernel_rfl) (by kernel_rfl) (by kernel_rfl) (fun _ _ _ h => h) (Or.inl ⟨by rfl, ?_⟩) (by assumption) ?_
        rotate_left
        · intro w hSw
          try dsimp only at hSw
          go_simp
          try with_reducible rfl
        simp only [Act.put, List.setIfInBounds_toArray, List.set_cons_zero, List.set_cons_succ, List.getElem_toArray, List.getElem_cons_zero, List.getElem_cons_succ]
        refine wpAnyH_take (i := 5) (v := ?_) rfl (by kernel_rfl) (by kernel_rfl) (by kernel_rfl) (fun _ _ _ h => h) (Or.inl ⟨by rfl, ?_⟩) (by assumption) ?_
        rotate_left
        · intro w hSw
          try dsimp only at hSw
          go_simp
          try with_reducible rfl
        simp only [Act.put, List.setIfInBounds_toArray, List.set_cons_zero, List.set_cons_succ, List.getElem_toArray, List.getElem_cons_zero, List.getElem_cons_succ]
        refine wpAnyH_take (i := 7) (v := ?_) rfl (by kernel_rfl) (by kernel_rfl) (by kernel_rfl) (fun _ _ _ h => h) (Or.inl ⟨by rfl, ?_⟩) (by assumption) ?_
        rotate_left
        · intro w hSw
          try dsimp only at hSw
          go_simp
          try with_reducible rfl
        simp only [Act.put, List.setIfInBounds_toArray, List.set_cons_zero, List.set_cons_succ, List.getElem_toArray, List.getElem_cons_zero, List.getElem_cons_succ]
        refine wpAnyH_ready (rs := [6]) (by kernel_rfl) (by simp) ?_
        refine AllReadyH.cons rfl (fun K hK => ?_) AllReadyH.nil
        go_simp
        go_at_call 31
        refine (HHd.out _).mono ?_
        rintro e v0 ⟨rfl, hb⟩
        replace hr := hr.trans (hb.mono hr.size)
        clear hb
        dsimp only
        clear hHeld
        refine hK.out _ _ (HKG.out _ hr) (fun hHeld => ?_)
        clear hK K
        try simp only [Act.put, List.setIfInBounds_toArray, List.set_cons_zero, List.set_cons_succ, List.getElem_toArray, List.getElem_cons_zero, List.getElem_cons_succ]
        refine wpAnyH_take (i := 8) (v := ?_) rfl (by kernel_rfl) (by kernel_rfl) (by kernel_rfl) (fun _ _ _ h => h) (Or.inl ⟨by rfl, ?_⟩) (by assumption) ?_
        rotate_left
        · intro w hSw
          try dsimp only at hSw
          go_simp
          try with_reducible rfl
        simp only [Act.put, List.setIfInBounds_toArray, List.set_cons_zero, List.set_cons_succ, List.getElem_toArray, List.getElem_cons_zero, List.getElem_cons_succ]
        refine wpAnyH_take (i := 9) (v := ?_) rfl (by kernel_rfl) (by kernel_rfl) (by kernel_rfl) (fun _ _ _ h => h) (Or.inl ⟨by rfl, ?_⟩) (by assumption) ?_
        rotate_left
        · intro w hSw
          try dsimp only at hSw
          go_simp
          try with_reducible rfl
        simp only [Act.put, List.setIfInBounds_toArray, List.set_cons_zero, List.set_cons_succ, List.getElem_toArray, List.getElem_cons_zero, List.getElem_cons_succ]
        refine wpAnyH_take (i := 10) (v := ?_) rfl (by kernel_rfl) (by kernel_rfl) (by kernel_rfl) (fun _ _ _ h => h) (Or.inl ⟨by rfl, ?_⟩) (by assumption) ?_
        rotate_left
        · intro w hSw
          try dsimp only at hSw
          go_simp
          try with_reducible rfl
        simp only [Act.put, List.setIfInBounds_toArray, List.set_cons_zero, List.set_cons_succ, List.getElem_toArray, List.getElem_cons_zero, List.getElem_cons_succ]
        refine wpAnyH_take (i := 11) (v := undef) rfl (by kernel_rfl) (by kernel_rfl) (by kernel_rfl) (fun _ _ _ h => h) (Or.inr ⟨by rfl, rfl⟩) (by assumption) ?_
        simp only [Act.put, List.setIfInBounds_toArray, List.set_cons_zero, List.set_cons_succ, List.getElem_toArray, List.getElem_cons_zero, List.getElem_cons_succ]
        refine wpAnyH_ready (rs := [12]) (by kernel_rfl) (by simp) ?_
        refine AllReadyH.cons rfl (fun K hK => ?_) AllReadyH.nil
        go_simp
        clear hHeld
        refine hK.out _ _ (HKG.out _ hr) (fun hHeld => ?_)
        clear hK K
        try simp only [Act.put, List.setIfInBounds_toArray, List.set_cons_zero, List.set_cons_succ, List.getElem_toArray, List.getElem_cons_zero, List.getElem_cons_succ]
        refine wpAnyH_take (i := 13) (v := undef) rfl (by kernel_rfl) (by kernel_rfl) (by kernel_rfl) (fun _ _ _ h => h) (Or.inr ⟨by rfl, rfl⟩) (by assumption) ?_
        simp only [Act.put, List.setIfInBounds_toArray, List.set_cons_zero, List.set_cons_succ, List.getElem_toArray, List.getElem_cons_zero, List.getElem_cons_succ]
        refine wpAnyH_take (i := 14) (v := ?_) rfl (by kernel_rfl) (by kernel_rfl) (by kernel_rfl) (fun _ _ _ h => h) (Or.inl ⟨by rfl, ?_⟩) (by assumption) ?_
        rotate_left
        · intro w hSw
          try dsimp only at hSw
          go_simp
          try with_reducible rfl
        simp only [Act.put, List.setIfInBounds_toArray, List.set_cons_zero, List.set_cons_succ, List.getElem_toArray, List.getElem_cons_zero, List.getElem_cons_succ]
        refine wpAnyH_done (by kernel_rfl) ?_ _
        clear hHeld
        have HRB := hide (hres.out _ hr)
        clear hr HEnd HHd HChk HKG hfd hne
        go_wp2_with (refine wpList_store_row rfl 24 (.tmp 2) (.tmp 41) rfl w.heap.size #[.int .i64 0, .int .i64 0, .int .i64 0, .int .i64 0, .slice none 0 0] rfl rfl 24 _ HRB.out.1.what (by kernel_rfl) rfl (by kernel_rfl) ?_)
        have HV3 := HRB.out.1.setRow #[.int .i64 0, .int .i64 0, .int .i64 0, .int .i64 0, .slice none 0 0]
        obtain ⟨g0, g1, g2, g3, g4⟩ := five_of HV3
        refine bodyPost_ret (v := .tuple #[.agg #[.int .i64 0, .int .i64 0, .int .i64 0, .int .i64 0, .slice none 0 0], .int .i64 6]) (by simp [results, Try.f23, go_sem, g0, g1, g2, g3, g4]) rfl ?_
        rw [HZZ.out]
        exact zero_said rfl (below_setRow HRB.out.2 (Nat.le_refl _) _)
    · have hq : endR zs u = (u.er, u.fa) := if_neg (fun h => hu h.1)
      have hz : getM zs = (MV.zero, 6) := getM_fault HX.out.words HE5.out (HGM.out.said) hu
      rw [hq] at HEnd
      have HZZ := hide hz
      dsimp only at HEnd
      have hnb : (u.er == 0) = false := beq_eq_false_iff_ne.2 hu
      have hnb2 : (u.er != 0) = true := by simpa using hu
      have hfd := run_field0 u.er u.fa
      clear hq hz hu hm
      go_wp2_with fail
      refine wp_region_held_drew (S := fun V : World => V.cell? ⟨F, 0, none⟩ = some (.int .i64 (v1 : Nat)) ∧ V.cell? ⟨F, 1, none⟩ = some (.int .i64 (v2 : Nat)) ∧ V.cell? ⟨F, 2, none⟩ = some (.int .i64 (v3 : Nat)) ∧ V.cell? ⟨F, 3, none⟩ = some (.int .i64 (v4 : Nat)) ∧ V.cell? ⟨F, 4, none⟩ = some (.slice g m dd) ∧ V.cell? ⟨w3.heap.size, 0, none⟩ = some (.int .i64 (v1 : Nat)) ∧ V.cell? ⟨w3.heap.size, 1, none⟩ = some (.int .i64 (v2 : Nat)) ∧ V.cell? ⟨w3.heap.size, 2, none⟩ = some (.int .i64 (v3 : Nat)) ∧ V.cell? ⟨w3.heap.size, 3, none⟩ = some (.int .i64 (v4 : Nat)) ∧ V.cell? ⟨w3.heap.size, 4, none⟩ = some (.int .i64 (v5 : Nat))) (by kernel_rfl) (HKG.out _ hr) (fun hHeld => ?_)
      refine wpAnyH_take (i := 0) (v := ?_) rfl (by kernel_rfl) (by kernel_rfl) (by kernel_rfl) (fun _ _ _ h => h) (Or.inl ⟨by rfl, ?_⟩) (by assumption) ?_
      rotate_left
      · intro w hSw
        try dsimp only at hSw
        go_simp
        try with_reducible rfl
      simp only [Act.put, List.setIfInBounds_toArray, List.set_cons_zero, List.set_cons_succ, List.getElem_toArray, List.getElem_cons_zero]
      refine wpAnyH_ready (rs := [1]) (by kernel_rfl) (by simp) ?_
      refine AllReadyH.cons rfl (fun K hK => ?_) AllReadyH.nil
      go_simp
      go_at_call 46
      refine (HEnd.out _ hr).mono ?_
      rintro e v0 ⟨rfl, hb⟩
      replace hr := hr.trans (hb.mono hr.size)
      clear hb
      dsimp only
      clear hHeld
      refine hK.out _ _ (HKG.out _ hr) (fun hHeld => ?_)
      clear hK K
      try simp only [Act.put, List.setIfInBounds_toArray, List.set_cons_zero, List.set_cons_succ, List.getElem_toArray, List.getElem_cons_zero, List.getElem_cons_succ]
      refine wpAnyH_take (i := 2) (v := ?_) rfl (by kernel_rfl) (by kernel_rfl) (by kernel_rfl) (fun _ _ _ h => h) (Or.inl ⟨by rfl, ?_⟩) (by assumption) ?_
      rotate_left
      · intro w hSw
        try dsimp only at hSw
        go_simp
        try with_reducible rfl
      simp only [Act.put, List.setIfInBounds_toArray, List.set_cons_zero, List.set_cons_succ, List.getElem_toArray, List.getElem_cons_zero, List.getElem_cons_succ]
      refine wpAnyH_take (i := 3) (v := ?_) rfl (by kernel_rfl) (by kernel_rfl) (by kernel_rfl) (fun _ _ _ h => h) (Or.inl ⟨by rfl, ?_⟩) (by assumption) ?_
      rotate_left
      · intro w hSw
        try dsimp only at hSw
        go_simp
        try with_reducible rfl
      simp only [Act.put, List.setIfInBounds_toArray, List.set_cons_zero, List.set_cons_succ, List.getElem_toArray, List.getElem_cons_zero, List.getElem_cons_succ]
      refine wpAnyH_take (i := 4) (v := ?_) rfl (by kernel_rfl) (by kernel_rfl) (by kernel_rfl) (fun _ _ _ h => h) (Or.inl ⟨by rfl, ?_⟩) (by assumption) ?_
      rotate_left
      · intro w hSw
        try dsimp only at hSw
        go_simp
        try with_reducible rfl
      simp only [Act.put, List.setIfInBounds_toArray, List.set_cons_zero, List.set_cons_succ, List.getElem_toArray, List.getElem_cons_zero, List.getElem_cons_succ]
      refine wpAnyH_take (i := 5) (v := undef) rfl (by kernel_rfl) (by kernel_rfl) (by kernel_rfl) (fun _ _ _ h => h) (Or.inr ⟨by rfl, rfl⟩) (by assumption) ?_
      simp only [Act.put, List.setIfInBounds_toArray, List.set_cons_zero, List.set_cons_succ, List.getElem_toArray, List.getElem_cons_zero, List.getElem_cons_succ]
      refine wpAnyH_take (i := 7) (v := undef) rfl (by kernel_rfl) (by kernel_rfl) (by kernel_rfl) (fun _ _ _ h => h) (Or.inr ⟨by rfl, rfl⟩) (by assumption) ?_
      simp only [Act.put, List.setIfInBounds_toArray, List.set_cons_zero, List.set_cons_succ, List.getElem_toArray, List.getElem_cons_zero, List.getElem_cons_succ]
      refine wpAnyH_ready (rs := [6]) (by kernel_rfl) (by simp) ?_
      refine AllReadyH.cons rfl (fun K hK => ?_) AllReadyH.nil
      go_simp
      clear hHeld
      refine hK.out _ _ (HKG.out _ hr) (fun hHeld => ?_)
      clear hK K
      try simp only [Act.put, List.setIfInBounds_toArray, List.set_cons_zero, List.set_cons_succ, List.getElem_toArray, List.getElem_cons_zero, List.getElem_cons_succ]
      refine wpAnyH_take (i := 8) (v := undef) rfl (by kernel_rfl) (by kernel_rfl) (by kernel_rfl) (fun _ _ _ h => h) (Or.inr ⟨by rfl, rfl⟩) (by assumption) ?_
      simp only [Act.put, List.setIfInBounds_toArray, List.set_cons_zero, List.set_cons_succ, List.getElem_toArray, List.getElem_cons_zero, List.getElem_cons_succ]
      refine wpAnyH_take (i := 9) (v := ?_) rfl (by kernel_rfl) (by kernel_rfl) (by kernel_rfl) (fun _ _ _ h => h) (Or.inl ⟨by rfl, ?_⟩) (by assumption) ?_
      rotate_left
      · intro w hSw
        try dsimp only at hSw
        go_simp
        try with_reducible rfl
      simp only [Act.put, List.setIfInBounds_toArray, List.set_cons_zero, List.set_cons_succ, List.getElem_toArray, List.getElem_cons_zero, List.getElem_cons_succ]
      refine wpAnyH_take (i := 10) (v := ?_) rfl (by kernel_rfl) (by kernel_rfl) (by kernel_rfl) (fun _ _ _ h => h) (Or.inl ⟨by rfl, ?_⟩) (by assumption) ?_
      rotate_left
      · intro w hSw
        try dsimp only at hSw
        go_simp
        try with_reducible rfl
      simp only [Act.put, List.setIfInBounds_toArray, List.set_cons_zero, List.set_cons_succ, List.getElem_toArray, List.getElem_cons_zero, List.getElem_cons_succ]
      refine wpAnyH_take (i := 11) (v := undef) rfl (by kernel_rfl) (by kernel_rfl) (by kernel_rfl) (fun _ _ _ h => h) (Or.inr ⟨by rfl, rfl⟩) (by assumption) ?_
      simp only [Act.put, List.setIfInBounds_toArray, List.set_cons_zero, List.set_cons_succ, List.getElem_toArray, List.getElem_cons_zero, List.getElem_cons_succ]
      refine wpAnyH_ready (rs := [12]) (by kernel_rfl) (by simp) ?_
      refine AllReadyH.cons rfl (fun K hK => ?_) AllReadyH.nil
      go_simp
      clear hHeld
      refine hK.out _ _ (HKG.out _ hr) (fun hHeld => ?_)
      clear hK K
      try simp only [Act.put, List.setIfInBounds_toArray, List.set_cons_zero, List.set_cons_succ, List.getElem_toArray, List.getElem_cons_zero, List.getElem_cons_succ]
      refine wpAnyH_take (i := 13) (v := undef) rfl (by kernel_rfl) (by kernel_rfl) (by kernel_rfl) (fun _ _ _ h => h) (Or.inr ⟨by rfl, rfl⟩) (by assumption) ?_
      simp only [Act.put, List.setIfInBounds_toArray, List.set_cons_zero, List.set_cons_succ, List.getElem_toArray, List.getElem_cons_zero, List.getElem_cons_succ]
      refine wpAnyH_take (i := 14) (v := ?_) rfl (by kernel_rfl) (by kernel_rfl) (by kernel_rfl) (fun _ _ _ h => h) (Or.inl ⟨by rfl, ?_⟩) (by assumption) ?_
      rotate_left
      · intro w hSw
        try dsimp only at hSw
        go_simp
        try with_reducible rfl
      simp only [Act.put, List.setIfInBounds_toArray, List.set_cons_zero, List.set_cons_succ, List.getElem_toArray, List.getElem_cons_zero, List.getElem_cons_succ]
      refine wpAnyH_done (by kernel_rfl) ?_ _
      clear hHeld
      have HRB := hide (hres.out _ hr)
      clear hr HEnd HHd HChk HKG hfd
      go_wp2_with (refine wpList_store_row rfl 24 (.tmp 2) (.tmp 41) rfl w.heap.size #[.int .i64 0, .int .i64 0, .int .i64 0, .int .i64 0, .slice none 0 0] rfl rfl 24 _ HRB.out.1.what (by kernel_rfl) rfl (by kernel_rfl) ?_)
      have HV3 := HRB.out.1.setRow #[.int .i64 0, .int .i64 0, .int .i64 0, .int .i64 0, .slice none 0 0]
      obtain ⟨g0, g1, g2, g3, g4⟩ := five_of HV3
      refine bodyPost_ret (v := .tuple #[.agg #[.int .i64 0, .int .i64 0, .int .i64 0, .int .i64 0, .slice none 0 0], .int .i64 6]) (by simp [results, Try.f23, go_sem, g0, g1, g2, g3, g4]) rfl ?_
      rw [HZZ.out]
      exact zero_said rfl (below_setRow HRB.out.2 (Nat.le_refl _) _)
theorem mfget_any {a : Option Addr} {n c : Nat} {zs : List Int} {lo : Nat} {w : World} (X : Byt lo w (.slice a n c) zs) :
    Calls Try.prog 23 #[.slice a n c] w (GetSaid (getM zs) w) := by
  by_cases h : 40020 < n
  · exact mfget_far X h
  · exact mfget_near X h
def putM (m : MV) : List Int := if MayM m then bodyM m else []
theorem putM_yes {m : MV} (h : MayM m) : putM m = bodyM m := if_pos h
theorem putM_no {m : MV} (h : ¬ MayM m) : putM m = [] := if_neg h
set_option maxRecDepth 100000 in
set_option maxHeartbeats 2000000 in
theorem mfput_yes (z y k s : Int) (a : Option Addr) (n c : Nat) (ts : List Int) {lo : Nat} (w : World) (X : Intz lo w (.slice a n c) ts) (hM : MayM ⟨z, y, k, s, ts⟩) (hs : s ≤ 9223372036854775807) :
    Calls Try.prog 11 #[.agg #[.int .i64 z, .int .i64 y, .int .i64 k, .int .i64 s, .slice a n c]] w (BytPost (bodyM ⟨z, y, k, s, ts⟩) 0 w) := by
  have hn := X.len.1
  have B1 := below_new w (.cells #[.int .i64 z, .int .i64 y, .int .i64 k, .int .i64 s, .slice a n c] 24)
  have hc := mfcheck_any z y k s a n c ts _ (X.below B1)
  have HR := hide (Box.new w (.cells #[.int .i64 z, .int .i64 y, .int .i64 k, .int .i64 s, .slice a n c] 24))
  have HB := hide B1
  rw [checkM_yes hM] at hc
  have hn4 : n ≤ 10000 := by have := hM.2.2.2.2.1; dsimp only at this; omega
  have HX := hide X
  have HF := hide (numM_fits hM hs)
  have HWT := hide (wts_each hM.2.2.2.2.2.1)
  have HN := hide hn
  have HN4 := hide hn4
  clear X B1 hM hs hn
  go_enter Try.func11, Try.ntmps11
  go_wp2_with fail
  refine hc.mono ?_
  rintro e w1 ⟨rfl, b1⟩
  have HB1 := hide (HB.out.trans (b1.mono HB.out.size))
  have HR1 := hide (HR.out.below b1)
  obtain ⟨_, _, _, _, c4⟩ := five_of (HR.out.below b1)
  have hnw := onew_yes (20 + n * 4) (by omega) w1
  rw [show ((20 + n * 4 : Nat) : Int) = 20 + (n : Int) * 4 by omega] at hnw
  clear hc b1 HB HR
  go_wp2_with fail
  refine hnw.mono ?_
  rintro e w2 ⟨p, cu, rfl, P, hp, hcu, b2⟩
  have HB12 := hide b2
  have HP := hide P
  have HCU := hide hcu
  have HR2 := hide (HR1.out.below b2)
  clear hnw c4 P hp hcu
  obtain ⟨c0, c1, c2, c3, c4⟩ := five_of HR2.out
  have hh := mfhead_any z y k s a n c w2
  go_wp2_with fail
  refine hh.mono ?_
  rintro e w3 ⟨rfl, b3⟩
  have hfl := mffields_any z y k s n w3
  have HB13 := hide (HB12.out.trans (b3.mono b2.size))
  have HP3 := hide (HP.out.below b3)
  clear hh b3 HB12 HP c0 c1 c2 c3 c4 b2 HR2
  go_wp2_with fail
  refine hfl.mono ?_
  rintro e w4 ⟨rfl, b4⟩
  have HB14 := hide (HB13.out.trans (b4.mono HB13.out.size))
  have HP4 := hide (HP3.out.below b4)
  obtain ⟨FV, hFV⟩ : ∃ FV, fldsV z y k s n = FV := ⟨_, rfl⟩
  rw [hFV]
  have HFV := hide hFV
  clear hfl b4 HB13 HP3 hFV
  go_wp2
  go_loopw [7, 27] (fun _ cnt wr => ∃ (j : Nat) (g : Option Addr) (m d : Nat), j ≤ 5 ∧ cnt = .int .i64 j ∧ Hid (PW w1.heap.size wr p cu (20 + n * 4) g m d (accM z y k s n j, 0)) ∧ Hid (Below w1.heap.size w1 wr)) (fun _ cnt _ => 6 - (intOf cnt).toNat)
  case atStart => exact ⟨0, none, 0, 0, by omega, rfl, HP4.out, HB14.out⟩
  case round =>
    obtain ⟨j, g, m, d, hj, rfl, P, HBr⟩ := hrel
    by_cases hj5 : j < 5
    · have hji : (j : Int) < 5 := by omega
      have hix := run_fld z y k s n j hj5 wr
      rw [HFV.out] at hix
      have hfit := HF.out j
      rw [← HN.out] at hfit
      have hxl := hfit.2
      have hpw := putW_fit (most := 20 + n * 4) (zs := accM z y k s n j) (k := (widM j : Nat)) (x := numM z y k s n j) rfl (widM_is j) hfit.1 (by have := accM_len z y k s n j hj5; omega)
      have HPW : Hid (putW (20 + n * 4) (accM z y k s n j, 0) (widM j : Nat) (numM z y k s n j) = (accM z y k s n (j + 1), 0)) := hpw
      clear hpw hfit
      obtain ⟨x, hx⟩ : ∃ x, numM z y k s n j = x := ⟨_, rfl⟩
      obtain ⟨u, hu⟩ : ∃ u, (widM j : Int) = u := ⟨_, rfl⟩
      rw [hx] at hix hxl HPW
      rw [hu] at hix HPW
      clear hx hu
      have KB := below_new wr (.cells #[.int .i64 u, .int .i64 x] 53)
      have hpt := oput_any (k := u) (x := x) (P.out.below KB) hxl
      rw [HPW.out] at hpt
      have HP' := hide (P.out.below KB)
      have HBr' := hide (HBr.out.trans (KB.mono HBr.out.size))
      clear hxl KB P HBr
      go_wp2_with fail
      refine hpt.mono ?_
      rintro e w5 ⟨g', m', d', rfl, P5, S5, _⟩
      have HB5 := hide (HP'.out.base HBr'.out S5 HCU.out)
      have HP5 := hide P5
      clear hpt P5 S5 hix HP' HBr'
      go_wp2
      exact ⟨⟨j + 1, g', m', d', by omega, by go_num, HP5.out, HB5.out⟩, by simp [intOf]; omega⟩
    · obtain rfl : j = 5 := by omega
      have hP5 := P.out
      rw [HN.out, accM_head, ← HN.out] at hP5
      have HP5 := hide hP5
      have HW1 := hide (HB1.out.trans (HBr.out.mono HB1.out.size))
      have hR5 := HR1.out.lo HBr.out HR1.out.lt
      obtain ⟨c0, c1, c2, c3, c4⟩ := five_of hR5
      have HC4 := hide hR5
      clear P hP5 hR5 hj5 hj HP4 HB14
      go_wp2
      clear c0 c1 c2 c3 c4
      simp only [show ((5 : Nat) : Int) = 5 from rfl]
      go_loopw [9, 40] (fun _ cnt wq => ∃ (i : Nat) (g : Option Addr) (m d : Nat), i ≤ n ∧ cnt = .int .i64 i ∧ Hid (PW w1.heap.size wq p cu (20 + n * 4) g m d (headM ⟨z, y, k, s, ts⟩ ++ fours (ts.take i), 0)) ∧ Hid (Below w1.heap.size w1 wq)) (fun _ cnt _ => n + 1 - (intOf cnt).toNat)
      case atStart => exact ⟨0, g, m, d, by omega, rfl, by rw [List.take_zero, fours_nil, List.append_nil]; exact HP5.out, HBr.out⟩
      case round =>
        obtain ⟨i, g, m, d, hi, rfl, P, HBq⟩ := hrel
        by_cases hin : i < n
        · have hii : (i : Int) < (n : Int) := by omega
          have Xq := HX.out.below (HB1.out.trans (HBq.out.mono HB1.out.size))
          obtain ⟨b0, o0, rfl, _, _⟩ := Xq.row (by omega)
          have hcell := (Xq.cell (j := i) hin).1
          have hil : i < ts.length := by have := HN.out; omega
          have hwt : Wt (ts[i]?.getD 0) := by rw [List.getElem?_eq_getElem hil]; exact HWT.out _ (List.getElem_mem hil)
          have hft := fours_take hil
          have hpw := putW_fit (most := 20 + n * 4) (zs := headM ⟨z, y, k, s, ts⟩ ++ fours (ts.take i)) (k := 4) (x := ts[i]?.getD 0) (K := 4) rfl (by decide) ((fits_4 _).2 (by unfold Wt at hwt; omega)) (by rw [List.length_append, headM_length, fours_length, List.length_take]; omega)
          have HPW : Hid (putW (20 + n * 4) (headM ⟨z, y, k, s, ts⟩ ++ fours (ts.take i), 0) 4 (ts[i]?.getD 0) = (headM ⟨z, y, k, s, ts⟩ ++ fours (ts.take (i + 1)), 0)) := by rw [hft, ← List.append_assoc]; exact hpw
          clear hpw hft
          obtain ⟨x, hx⟩ : ∃ x, ts[i]?.getD 0 = x := ⟨_, rfl⟩
          rw [hx] at hcell hwt HPW
          have hxl : x ≤ 9223372036854775807 := by unfold Wt at hwt; omega
          have hpt := oput_any (k := 4) (x := x) P.out hxl
          rw [HPW.out] at hpt
          clear hxl hx hwt Xq hil
          go_wp2_with fail
          refine hpt.mono ?_
          rintro e w5 ⟨g', m', d', rfl, P5, S5, _⟩
          have HB5 := hide (P.out.base HBq.out S5 HCU.out)
          have HP5 := hide P5
          clear hpt P5 S5 hcell P HBq
          go_wp2
          exact ⟨⟨i + 1, g', m', d', by omega, by go_num, HP5.out, HB5.out⟩, by simp [intOf]; omega⟩
        · obtain rfl : i = n := by omega
          have hbt := obytes_any P.out
          have hbo : headM ⟨z, y, k, s, ts⟩ ++ fours (ts.take i) = bodyM ⟨z, y, k, s, ts⟩ := by rw [HN.out, List.take_length]; rfl
          unfold tells at hbt
          rw [if_pos rfl] at hbt
          dsimp only at hbt
          rw [hbo] at hbt
          clear hbo P
          have HBY := hide (HB1.out.trans (HBq.out.mono HB1.out.size))
          go_wp2_with fail
          refine hbt.mono ?_
          rintro e w6 ⟨a6, n6, c6, rfl, Y6, b6⟩
          have HY6 := hide (Y6.mono HBY.out.size)
          have HB6 := hide (HBY.out.trans (b6.mono HBY.out.size))
          clear hbt Y6 b6
          go_wp2
          refine bodyPost_ret (v := .tuple #[.slice a6 n6 c6, .int .i64 0]) (by simp [results, Try.f11, go_sem]) rfl ?_
          exact ⟨a6, n6, c6, rfl, HY6.out, HB6.out⟩
set_option maxRecDepth 100000 in
set_option maxHeartbeats 2000000 in
theorem mfput_no (z y k s : Int) (a : Option Addr) (n c : Nat) (ts : List Int) {lo : Nat} (w : World) (X : Intz lo w (.slice a n c) ts) (hM : ¬ MayM ⟨z, y, k, s, ts⟩) :
    Calls Try.prog 11 #[.agg #[.int .i64 z, .int .i64 y, .int .i64 k, .int .i64 s, .slice a n c]] w (BytPost [] 2 w) := by
  have B1 := below_new w (.cells #[.int .i64 z, .int .i64 y, .int .i64 k, .int .i64 s, .slice a n c] 24)
  have hc := mfcheck_any z y k s a n c ts _ (X.below B1)
  have HB := hide B1
  rw [checkM_no hM] at hc
  clear X B1 hM
  go_enter Try.func11, Try.ntmps11
  go_wp2_with fail
  refine hc.mono ?_
  rintro e w1 ⟨rfl, b1⟩
  have HB1 := hide (HB.out.trans (b1.mono HB.out.size))
  clear hc b1 HB
  go_wp2
  refine bodyPost_ret (v := .tuple #[.slice none 0 0, .int .i64 2]) (by simp [results, Try.f11, go_sem]) rfl ?_
  exact ⟨none, 0, 0, rfl, Byt.nil _ _, HB1.out⟩
theorem mfput_any (z y k s : Int) (a : Option Addr) (n c : Nat) (ts : List Int) {lo : Nat} (w : World) (X : Intz lo w (.slice a n c) ts) (hs : s ≤ 9223372036854775807) :
    Calls Try.prog 11 #[.agg #[.int .i64 z, .int .i64 y, .int .i64 k, .int .i64 s, .slice a n c]] w (BytPost (putM ⟨z, y, k, s, ts⟩) (checkM ⟨z, y, k, s, ts⟩) w) := by
  by_cases hM : MayM ⟨z, y, k, s, ts⟩
  · rw [putM_yes hM, checkM_yes hM]
    exact mfput_yes z y k s a n c ts w X hM hs
  · rw [putM_no hM, checkM_no hM]
    exact mfput_no z y k s a n c ts w X hM
theorem intz_lit (W : World) (g n : Nat) (hg : W.heap.size = g) (zs : List Int) (hz : Nums zs) (hn : zs.length = n) (cs : Array Value) (hc : cs = (zs.map (Value.int .i64)).toArray) : Intz g (W.alloc (.cells cs 3)) (.slice (some ⟨g, 0, none⟩) n n) zs := by
  subst hg hn hc
  have hh : (W.alloc (.cells (zs.map (Value.int .i64)).toArray 3)).heap[W.heap.size]? = some (.cells (zs.map (Value.int .i64)).toArray 3 (0, 0)) := World.alloc_heap_new W _
  refine ⟨hz, _, _, rfl, Nat.le_refl _, fun _ => ⟨_, 0, rfl, Nat.le_refl _, by simp, fun j hj => ?_, fun j _ => frozen_of_heap hh _⟩⟩
  rw [cell_of_heap hh, Nat.zero_add]
  simp [hj]
theorem nums_ones : Nums [1, 1] := fun z hz => by simp at hz; subst hz; decide
def mTen : MV := ⟨10, 2, 2, 7, [1, 1]⟩
set_option maxRecDepth 100000 in
set_option maxHeartbeats 1000000 in
theorem ten_any (w : World) : Calls Try.prog 26 #[] w fun e w' => ∃ g : Nat, e = .returned (.agg #[.int .i64 10, .int .i64 2, .int .i64 2, .int .i64 7, .slice (some ⟨g, 0, none⟩) 2 2]) ∧ Intz w.heap.size w' (.slice (some ⟨g, 0, none⟩) 2 2) [1, 1] ∧ Below w.heap.size w w' := by
  have B1 := below_new w (.cells #[.int .i64 10, .int .i64 2, .int .i64 2, .int .i64 7, .slice (some ⟨w.heap.size + 1, 0, none⟩) 2 2] 24)
  have B2 := below_new (w.alloc (.cells #[.int .i64 10, .int .i64 2, .int .i64 2, .int .i64 7, .slice (some ⟨w.heap.size + 1, 0, none⟩) 2 2] 24)) (.cells #[.int .i64 1, .int .i64 1] 3)
  have R2 := (Box.new w (.cells #[.int .i64 10, .int .i64 2, .int .i64 2, .int .i64 7, .slice (some ⟨w.heap.size + 1, 0, none⟩) 2 2] 24)).below B2
  have I2 := intz_lit (w.alloc (.cells #[.int .i64 10, .int .i64 2, .int .i64 2, .int .i64 7, .slice (some ⟨w.heap.size + 1, 0, none⟩) 2 2] 24)) (w.heap.size + 1) 2 (by simp) [1, 1] nums_ones rfl #[.int .i64 1, .int .i64 1] rfl
  have HB := hide (B1.trans (B2.mono B1.size))
  have HR := hide R2
  have HI := hide (I2.mono (Nat.le_succ _))
  clear B1 B2 R2 I2
  go_enter Try.func26, Try.ntmps26
  go_wp2
  obtain ⟨g0, g1, g2, g3, g4⟩ := five_of HR.out
  refine bodyPost_ret (v := .agg #[.int .i64 10, .int .i64 2, .int .i64 2, .int .i64 7, .slice (some ⟨w.heap.size + 1, 0, none⟩) 2 2]) (by simp [results, Try.f26, go_sem, g0, g1, g2, g3, g4]) rfl ?_
  exact ⟨w.heap.size + 1, rfl, HI.out, HB.out⟩
def bTen : List Int := [0, 0, 0, 10, 0, 2, 0, 0, 0, 2, 0, 0, 0, 0, 0, 0, 0, 7, 0, 2, 0, 0, 0, 1, 0, 0, 0, 1]
theorem may_ten : MayM ⟨10, 2, 2, 7, [1, 1]⟩ := by decide +kernel
theorem body_ten : bodyM ⟨10, 2, 2, 7, [1, 1]⟩ = bTen := by decide +kernel
theorem get_ten : getM bTen = (⟨10, 2, 2, 7, [1, 1]⟩, 0) := by
  have := getM_body may_ten (by decide)
  rwa [body_ten] at this
theorem put_ten : putM ⟨10, 2, 2, 7, [1, 1]⟩ = bTen := by rw [putM_yes may_ten, body_ten]
theorem octs_ten : Octs bTen := octs_of rfl
theorem blocks_ten : blocksM ⟨10, 2, 2, 7, [1, 1]⟩ = 3 := by
  unfold blocksM
  rw [if_pos may_ten]
  decide
set_option maxRecDepth 100000 in
set_option maxHeartbeats 2000000 in
theorem mawake_any (w : World) : Calls Try.prog 9 #[] w fun e w' => e = .returned (.bool true) ∧ Below w.heap.size w w' := by
  have ht := ten_any w
  have HP : Hid (∀ (V : World) (g lo : Nat), Intz lo V (.slice (some ⟨g, 0, none⟩) 2 2) [1, 1] → Calls Try.prog 11 #[.agg #[.int .i64 10, .int .i64 2, .int .i64 2, .int .i64 7, .slice (some ⟨g, 0, none⟩) 2 2]] V (BytPost bTen 0 V)) := fun V g lo I => by
    have := mfput_any 10 2 2 7 (some ⟨g, 0, none⟩) 2 2 [1, 1] V I (by decide)
    rwa [put_ten, checkM_yes may_ten] at this
  have HBl : Hid (∀ (V : World) (g lo : Nat), Intz lo V (.slice (some ⟨g, 0, none⟩) 2 2) [1, 1] → Calls Try.prog 18 #[.agg #[.int .i64 10, .int .i64 2, .int .i64 2, .int .i64 7, .slice (some ⟨g, 0, none⟩) 2 2]] V fun e w' => e = .returned (.int .i64 3) ∧ Below V.heap.size V w') := fun V g lo I => by
    have := mfblocks_any 10 2 2 7 (some ⟨g, 0, none⟩) 2 2 [1, 1] V I
    rwa [blocks_ten] at this
  have HT := hide (fun V => ten_any V)
  have HG : Hid (∀ (V : World) (g lo : Nat), Byt lo V (.slice (some ⟨g, 0, none⟩) 28 28) bTen → Calls Try.prog 23 #[.slice (some ⟨g, 0, none⟩) 28 28] V (GetSaid (⟨10, 2, 2, 7, [1, 1]⟩, 0) V)) := fun V g lo X => by
    have := mfget_any X
    rwa [get_ten] at this
  go_enter Try.func9, Try.ntmps9
  go_wp2_with fail
  refine ht.mono ?_
  rintro e w1 ⟨g1, rfl, I1, b1⟩
  have hp := HP.out w1 g1 _ I1
  have HB1 := hide b1
  clear ht I1 b1 HP
  go_wp2_with fail
  refine hp.mono ?_
  rintro e w2 ⟨a2, n2, c2, rfl, Y2, b2⟩
  have hn2 : n2 = 28 := Y2.len.1
  subst hn2
  have HB2 := hide (HB1.out.trans (b2.mono HB1.out.size))
  have q3 := below_new w2 (.cells #[.int .u8 0, .int .u8 0, .int .u8 0, .int .u8 10, .int .u8 0, .int .u8 2, .int .u8 0, .int .u8 0, .int .u8 0, .int .u8 2, .int .u8 0, .int .u8 0, .int .u8 0, .int .u8 0, .int .u8 0, .int .u8 0, .int .u8 0, .int .u8 7, .int .u8 0, .int .u8 2, .int .u8 0, .int .u8 0, .int .u8 0, .int .u8 1, .int .u8 0, .int .u8 0, .int .u8 0, .int .u8 1] 5)
  have y3 := byt_lit w2 w2.heap.size 28 rfl bTen octs_ten rfl #[.int .u8 0, .int .u8 0, .int .u8 0, .int .u8 10, .int .u8 0, .int .u8 2, .int .u8 0, .int .u8 0, .int .u8 0, .int .u8 2, .int .u8 0, .int .u8 0, .int .u8 0, .int .u8 0, .int .u8 0, .int .u8 0, .int .u8 0, .int .u8 7, .int .u8 0, .int .u8 2, .int .u8 0, .int .u8 0, .int .u8 0, .int .u8 1, .int .u8 0, .int .u8 0, .int .u8 0, .int .u8 1] rfl
  have hg := HG.out _ w2.heap.size _ y3
  have HB3 := hide (HB2.out.trans (q3.mono HB2.out.size))
  have HY2 := hide (Y2.below q3)
  have HY3 := hide y3
  clear hp Y2 b2 HB1 HB2 q3 y3 HG
  go_wp2_with fail
  refine hg.mono ?_
  rintro e w3 ⟨a4, n4, c4, rfl, I4, b4⟩
  dsimp only at I4 ⊢
  have B5 := below_new w3 (.cells #[.int .i64 10, .int .i64 2, .int .i64 2, .int .i64 7, .slice a4 n4 c4] 24)
  have HR5 := hide (Box.new w3 (.cells #[.int .i64 10, .int .i64 2, .int .i64 2, .int .i64 7, .slice a4 n4 c4] 24))
  have BB := b4.trans (B5.mono b4.size)
  have HB5 := hide (HB3.out.trans (BB.mono HB3.out.size))
  have HY25 := hide (HY2.out.below BB)
  have HY35 := hide (HY3.out.below BB)
  have HI5 := hide (I4.below B5)
  have hr := (Below.refl (w3.alloc (.cells #[.int .i64 10, .int .i64 2, .int .i64 2, .int .i64 7, .slice a4 n4 c4] 24)).heap.size (w3.alloc (.cells #[.int .i64 10, .int .i64 2, .int .i64 2, .int .i64 7, .slice a4 n4 c4] 24))).drew
  have HK : Hid (∀ V : World, Below (w3.alloc (.cells #[.int .i64 10, .int .i64 2, .int .i64 2, .int .i64 7, .slice a4 n4 c4] 24)).heap.size (w3.alloc (.cells #[.int .i64 10, .int .i64 2, .int .i64 2, .int .i64 7, .slice a4 n4 c4] 24)) V → V.cell? ⟨w3.heap.size, 0, none⟩ = some (.int .i64 10) ∧ V.cell? ⟨w3.heap.size, 1, none⟩ = some (.int .i64 2) ∧ V.cell? ⟨w3.heap.size, 2, none⟩ = some (.int .i64 2) ∧ V.cell? ⟨w3.heap.size, 3, none⟩ = some (.int .i64 7) ∧ V.cell? ⟨w3.heap.size, 4, none⟩ = some (.slice a4 n4 c4)) := fun V hV => five_of (HR5.out.below hV)
  have HSB : Hid (∀ V : World, Below (w3.alloc (.cells #[.int .i64 10, .int .i64 2, .int .i64 2, .int .i64 7, .slice a4 n4 c4] 24)).heap.size (w3.alloc (.cells #[.int .i64 10, .int .i64 2, .int .i64 2, .int .i64 7, .slice a4 n4 c4] 24)) V → Calls Try.prog 15 #[.slice a2 28 c2, .slice (some ⟨w2.heap.size, 0, none⟩) 28 28] V fun e w' => e = .returned (.bool true) ∧ Below V.heap.size V w') := fun V hV => sameb_yes (HY25.out.below hV) (HY35.out.below hV) rfl
  have HSM : Hid (∀ (V : World) (g lo : Nat), Below (w3.alloc (.cells #[.int .i64 10, .int .i64 2, .int .i64 2, .int .i64 7, .slice a4 n4 c4] 24)).heap.size (w3.alloc (.cells #[.int .i64 10, .int .i64 2, .int .i64 2, .int .i64 7, .slice a4 n4 c4] 24)) V → Intz lo V (.slice (some ⟨g, 0, none⟩) 2 2) [1, 1] → Calls Try.prog 21 #[.agg #[.int .i64 10, .int .i64 2, .int .i64 2, .int .i64 7, .slice a4 n4 c4], .agg #[.int .i64 10, .int .i64 2, .int .i64 2, .int .i64 7, .slice (some ⟨g, 0, none⟩) 2 2]] V fun e w' => e = .returned (.bool true) ∧ Below V.heap.size V w') := fun V g lo hV J => samem_any 10 2 2 7 10 2 2 7 a4 (some ⟨g, 0, none⟩) n4 c4 2 2 _ _ [1, 1] [1, 1] V (HI5.out.below hV) J (by have := HI5.out.len.1; simp at this; omega)
  clear hg I4 b4 B5 BB HB3 HY2 HY3
  have t0 : Hid True := trivial
  go_wp2_with fail
  go_region_held3 (fun V : World => V.cell? ⟨w3.heap.size, 0, none⟩ = some (.int .i64 10) ∧ V.cell? ⟨w3.heap.size, 1, none⟩ = some (.int .i64 2) ∧ V.cell? ⟨w3.heap.size, 2, none⟩ = some (.int .i64 2) ∧ V.cell? ⟨w3.heap.size, 3, none⟩ = some (.int .i64 7) ∧ V.cell? ⟨w3.heap.size, 4, none⟩ = some (.slice a4 n4 c4)) (exact HK.out _ hr)
    (first
    | (clear t0
       go_at_call 15
       refine (HSB.out _ hr).mono ?_
       rintro e y1 ⟨rfl, hb⟩
       replace hr := hr.trans (hb.mono hr.size)
       clear hb
       have t1 : Hid True := trivial)
    | (clear t1
       go_at_call 26
       refine (HT.out _).mono ?_
       rintro e y2 ⟨g2, rfl, J2, hb⟩
       replace hr := hr.trans (hb.mono hr.size)
       clear hb
       have t2 : Hid True := trivial)
    | (clear t2
       go_at_call 21
       refine (HSM.out _ _ _ hr J2).mono ?_
       rintro e y3 ⟨rfl, hb⟩
       replace hr := hr.trans (hb.mono hr.size)
       clear hb J2
       have t3 : Hid True := trivial)
    | (clear t3
       go_at_call 26
       refine (HT.out _).mono ?_
       rintro e y4 ⟨g4, rfl, J4, hb⟩
       replace hr := hr.trans (hb.mono hr.size)
       clear hb
       have t4 : Hid True := trivial)
    | (clear t4
       go_at_call 18
       refine (HBl.out _ _ _ J4).mono ?_
       rintro e y5 ⟨rfl, hb⟩
       replace hr := hr.trans (hb.mono hr.size)
       clear hb J4
       have t5 : Hid True := trivial))
  all_goals
    have HRR := hide (HB5.out.trans (hr.mono HB5.out.size))
    clear hr t5
    go_wp2
    go_ret
    exact ⟨rfl, HRR.out⟩
theorem or_i64 (z x : Nat) (hz : z < 72057594037927936) (hx : x < 256) : bits .or .i64 (IntKind.i64.wrap ((z : Int) * 256)) (x : Int) = IntKind.i64.wrap ((256 * z + x : Nat) : Int) := by
  have h1 : (BitVec.ofInt 64 (IntKind.i64.wrap ((z : Int) * 256))).toNat = 256 * z := by
    rw [BitVec.toNat_ofInt, IntKind.wrap_i64]
    have : ((2 ^ 64 : Nat) : Int) = 18446744073709551616 := by decide
    rw [this]
    omega
  have h2 : (BitVec.ofInt 64 (x : Int)).toNat = x := by
    rw [BitVec.ofInt_natCast, BitVec.toNat_ofNat]; exact Nat.mod_eq_of_lt (by omega)
  show IntKind.i64.wrap ((BitVec.ofInt 64 (IntKind.i64.wrap ((z : Int) * 256)) ||| BitVec.ofInt 64 (x : Int)).toNat : Int) = _
  rw [BitVec.toNat_or, h1, h2]
  have h3 : 2 ^ 8 * z + x = 2 ^ 8 * z ||| x := Nat.two_pow_add_eq_or_of_lt (by omega) z
  rw [show 256 * z = 2 ^ 8 * z by omega, ← h3]
set_option maxRecDepth 100000 in
set_option maxHeartbeats 2000000 in
theorem dmnum_any {lo : Nat} {a : Option Addr} {n c : Nat} {zs : List Int} {w : World} (X : Byt lo w (.slice a n c) zs) (hl : n ≤ 8) :
    Calls Try.prog 47 #[.slice a n c] w fun e w' => e = .returned (.int .i64 (IntKind.i64.wrap (nb zs : Nat))) ∧ w' = w := by
  have HN := hide X.len.1
  have HX := hide X
  clear X
  go_enter Try.func47, Try.ntmps47
  go_wp2
  go_loopw [3, 4] (fun r i wr => ∃ k : Nat, k ≤ n ∧ r = .int .i64 (IntKind.i64.wrap (nb (zs.take k) : Nat)) ∧ i = .int .i64 k ∧ wr = w) (fun _ i _ => n - (intOf i).toNat)
  case atStart => exact ⟨0, Nat.zero_le _, rfl, rfl, rfl⟩
  case round =>
    obtain ⟨k, hk, rfl, rfl, rfl⟩ := hrel
    by_cases hkn : k < n
    · have hki : (k : Int) < (n : Int) := by omega
      obtain ⟨q, o, rfl, _, _⟩ := HX.out.row (by omega)
      have c1 := (HX.out.cell hkn).1
      have ho := HX.out.words.getD k
      have hz := nb_small HX.out.words (k := k) (by omega)
      have HT := hide (nb_take (zs := zs) (k := k) (by have := HN.out; omega))
      generalize nb (zs.take k) = z at *
      generalize zs[k]?.getD 0 = x at *
      obtain ⟨y, rfl⟩ := Int.eq_ofNat_of_zero_le ho.1
      have hy : y < 256 := by omega
      have HO := hide (or_i64 z y hz hy)
      have hwz : IntKind.i64.wrap (z : Int) = (z : Int) := wrap_in (by omega)
      rw [hwz]
      clear hwz hy
      go_wp2
      rw [← IntWalk.i64_left, HO.out]
      exact ⟨⟨k + 1, by omega, by rw [HT.out]; rfl, by go_num, trivial⟩, by simp [intOf]; omega⟩
    · obtain rfl : k = n := by omega
      have hr : nb (zs.take k) = nb zs := by rw [HN.out, List.take_length]
      rw [hr]
      clear hr
      go_wp2
      go_ret
      exact ⟨rfl, rfl⟩
theorem step_append_run {ops : Array Oper} {o : Oper} {a : Act} {W : World} {K : Act → World → Prop} {Q : Exit → Act → World → Prop} {E : Prop} (hgd : o.guard = none) (s x : Operand) (t tn : TypeId)
    (ho : o.op = .call { callee := .builtin .append, args := #[s, x], argTypes := #[t, tn] }) (vs vx : Value) (hs : a.eval s = vs) (hx : a.eval x = vx) (v' : Value) (w' : World) (hr : (Builtin.append_ #[t, tn] o.type #[vs, vx]).run Try.prog W = .ok v' w')
    (hK : K (a.put o.dst v') w') : if Region.wanted o (yielded ops a.tmps) = true then Oper.wp Try.prog o a W K Q else E := by
  have hw : Region.wanted o (yielded ops a.tmps) = true := by simp [Region.wanted, hgd]
  rw [if_pos hw]
  exact Lib.wp_append_run W s x t tn ho _ _ hs hx _ _ hr hK
inductive Tok where
  | tok
theorem leafH {P G : Prop} (h : (Tok → P) → G) (p : P) : G := h (fun _ => p)
theorem quads_one (zs : List Int) (o j : Nat) : quads (j + 1) (zs.drop o) = quads j (zs.drop o) ++ [((fld zs (o + 4 * j) 4 : Nat) : Int)] := by
  rw [quads_snoc, List.drop_drop]
  rfl
theorem getM_doc {zs : List Int} (ho : Octs zs) (h20 : 20 ≤ zs.length) (hl : zs.length = 20 + 4 * cnt zs) :
    getM zs = if MayM ⟨fld zs 0 4, fld zs 4 2, fld zs 6 4, IntKind.i64.wrap (fld zs 10 8 : Nat), quads (cnt zs) (zs.drop 20)⟩ then (⟨fld zs 0 4, fld zs 4 2, fld zs 6 4, IntKind.i64.wrap (fld zs 10 8 : Nat), quads (cnt zs) (zs.drop 20)⟩, 0) else (MV.zero, 6) := by
  have h8 := fld_lt ho 10 8
  rw [show (256 : Nat) ^ 8 = 18446744073709551616 by decide] at h8
  by_cases hv : fld zs 10 8 ≤ 9223372036854775807
  · rw [wrap_in (by omega)]
    unfold getM
    by_cases hM : MayM (docM zs)
    · rw [if_pos ⟨⟨h20, hl⟩, hv, hM⟩]
      exact (if_pos hM).symm
    · rw [if_neg (fun h => hM h.2.2)]
      exact (if_neg hM).symm
  · unfold getM
    rw [if_neg (fun h => hv h.2.1), if_neg]
    rintro ⟨_, _, _, h, _⟩
    dsimp only at h
    rw [IntKind.wrap_i64] at h
    omega
set_option maxRecDepth 100000 in
set_option maxHeartbeats 2000000 in
theorem dmget_few {a : Option Addr} {n c : Nat} {zs : List Int} {lo : Nat} {w : World} (X : Byt lo w (.slice a n c) zs) (h : n < 20) :
    Calls Try.prog 24 #[.slice a n c] w (GetSaid (getM zs) w) := by
  have hz : getM zs = (MV.zero, 6) := by
    unfold getM
    rw [if_neg]
    rintro ⟨⟨h1, _⟩, _⟩
    have := X.len.1
    omega
  rw [hz]
  have hi : (n : Int) < 20 := by omega
  have HB := hide (below_new w (.cells #[.int .i64 0, .int .i64 0, .int .i64 0, .int .i64 0, .slice none 0 0] 24))
  clear X h hz
  go_enter Try.func24, Try.ntmps24
  go_wp2
  refine bodyPost_ret (v := .tuple #[.agg #[.int .i64 0, .int .i64 0, .int .i64 0, .int .i64 0, .slice none 0 0], .int .i64 6]) (by simp [results, Try.f24, go_sem]) rfl ?_
  exact zero_said rfl HB.out
theorem Byt.drop {lo : Nat} {W : World} {b off len cap : Nat} {zs : List Int} (h : Byt lo W (.slice (some ⟨b, off, none⟩) len cap) zs) (k : Nat) (hk : k ≤ len) : Byt lo W (.slice (some ⟨b, off + k, none⟩) (len - k) (cap - k)) (zs.drop k) := by
  obtain ⟨hw, a', cap', e, h1, h3⟩ := h
  simp only [Value.slice.injEq] at e
  obtain ⟨rfl, rfl, rfl⟩ := e
  have hl : (zs.drop k).length = zs.length - k := List.length_drop
  refine ⟨fun z hz => hw z (List.mem_of_mem_drop hz), _, _, by rw [hl], by rw [hl]; omega, fun hz => ?_⟩
  have hp : 0 < zs.length - k := by rw [← hl]; exact List.length_pos_iff.2 hz
  obtain ⟨b', off', e1, e2, e3, e4, e5⟩ := h3 (List.length_pos_iff.1 (by omega))
  simp only [Option.some.injEq, Addr.mk.injEq] at e1
  obtain ⟨rfl, rfl, _⟩ := e1
  refine ⟨b, off + k, rfl, e2, e3, fun j hj => ?_, fun j hj => ?_⟩
  · rw [hl] at hj
    rw [Nat.add_assoc, e4 (k + j) (by omega), List.getElem?_drop]
  · rw [hl] at hj
    rw [Nat.add_assoc]
    exact e5 (k + j) (by omega)
theorem Byt.cut {lo g o n c : Nat} {zs : List Int} {w : World} (X : Byt lo w (.slice (some ⟨g, o, none⟩) n c) zs) (i k : Nat) (h : i + k ≤ n) : Byt lo w (.slice (some ⟨g, o + i, none⟩) k (c - i)) ((zs.drop i).take k) :=
  (X.drop i (by omega)).take (by rw [List.length_drop]; have := X.len.1; omega)
set_option maxRecDepth 100000 in
set_option maxHeartbeats 4000000 in
theorem dmget_some {g o n c : Nat} {zs : List Int} {lo : Nat} {w : World} (X : Byt lo w (.slice (some ⟨g, o, none⟩) n c) zs) (h : ¬ n < 20) (hbig : n ≤ 300000) :
    Calls Try.prog 24 #[.slice (some ⟨g, o, none⟩) n c] w (GetSaid (getM zs) w) := by
  have hi : ¬ (n : Int) < 20 := by omega
  have hlen := X.len.1
  have hcap := X.len.2
  have ho := X.words
  have B1 := below_new w (.cells #[.int .i64 0, .int .i64 0, .int .i64 0, .int .i64 0, .slice none 0 0] 24)
  have X1 := X.below B1
  have hcn := fld_lt ho 18 2
  rw [show (256 : Nat) ^ 2 = 65536 by decide] at hcn
  have hnum := dmnum_any (X1.cut 18 2 (by omega)) (by decide)
  change Calls _ _ _ _ (fun e w' => e = .returned (.int .i64 (IntKind.i64.wrap (fld zs 18 2 : Nat))) ∧ _) at hnum
  rw [wrap_in (x := ((fld zs 18 2 : Nat) : Int)) (by omega)] at hnum
  obtain ⟨C, hC⟩ : ∃ C, fld zs 18 2 = C := ⟨_, rfl⟩
  rw [hC] at hnum hcn
  have hCC : cnt zs = C := hC
  have HX1 := hide X1
  have HG : Hid (g < w.heap.size) := by
    obtain ⟨_, _, e, _, hl⟩ := X.row (by omega)
    simp only [Option.some.injEq, Addr.mk.injEq] at e
    show g < w.heap.size
    omega
  have HB := hide B1
  have HR := hide (Box.new w (.cells #[.int .i64 0, .int .i64 0, .int .i64 0, .int .i64 0, .slice none 0 0] 24))
  have HO := hide ho
  have HL := hide hlen
  have HC := hide hCC
  have hc20 : (20 : Int) ≤ (c : Int) := by omega
  have hn20 : (20 : Int) ≤ (n : Int) := by omega
  clear X X1 B1 ho hlen hC hCC
  by_cases hn : n = 20 + 4 * C
  · have hne : ((n : Int) != 20 + 4 * (C : Int)) = false := by simp; omega
    have hwm : IntKind.i64.wrap (4 * (C : Int)) = 4 * (C : Int) := wrap_in (by omega)
    have hwa : IntKind.i64.wrap (20 + 4 * (C : Int)) = 20 + 4 * (C : Int) := wrap_in (by omega)
    have HNN := hide hn
    have h8 := hide (fld_lt HO.out 10 8)
    have N1 : Hid (∀ W : World, Below (w.alloc (.cells #[.int .i64 0, .int .i64 0, .int .i64 0, .int .i64 0, .slice none 0 0] 24)).heap.size (w.alloc (.cells #[.int .i64 0, .int .i64 0, .int .i64 0, .int .i64 0, .slice none 0 0] 24)) W → Calls Try.prog 47 #[.slice (some ⟨g, o, none⟩) 4 c] W fun e w' => e = .returned (.int .i64 (IntKind.i64.wrap (fld zs 0 4 : Nat))) ∧ w' = W) := fun W hW => dmnum_any (((HX1.out.below hW).cut 0 4 (by omega))) (by decide)
    have N2 : Hid (∀ W : World, Below (w.alloc (.cells #[.int .i64 0, .int .i64 0, .int .i64 0, .int .i64 0, .slice none 0 0] 24)).heap.size (w.alloc (.cells #[.int .i64 0, .int .i64 0, .int .i64 0, .int .i64 0, .slice none 0 0] 24)) W → Calls Try.prog 47 #[.slice (some ⟨g, o + 4, none⟩) 2 (c - 4)] W fun e w' => e = .returned (.int .i64 (IntKind.i64.wrap (fld zs 4 2 : Nat))) ∧ w' = W) := fun W hW => dmnum_any (((HX1.out.below hW).cut 4 2 (by omega))) (by decide)
    have N3 : Hid (∀ W : World, Below (w.alloc (.cells #[.int .i64 0, .int .i64 0, .int .i64 0, .int .i64 0, .slice none 0 0] 24)).heap.size (w.alloc (.cells #[.int .i64 0, .int .i64 0, .int .i64 0, .int .i64 0, .slice none 0 0] 24)) W → Calls Try.prog 47 #[.slice (some ⟨g, o + 6, none⟩) 4 (c - 6)] W fun e w' => e = .returned (.int .i64 (IntKind.i64.wrap (fld zs 6 4 : Nat))) ∧ w' = W) := fun W hW => dmnum_any (((HX1.out.below hW).cut 6 4 (by omega))) (by decide)
    have N4 : Hid (∀ W : World, Below (w.alloc (.cells #[.int .i64 0, .int .i64 0, .int .i64 0, .int .i64 0, .slice none 0 0] 24)).heap.size (w.alloc (.cells #[.int .i64 0, .int .i64 0, .int .i64 0, .int .i64 0, .slice none 0 0] 24)) W → Calls Try.prog 47 #[.slice (some ⟨g, o + 10, none⟩) 8 (c - 10)] W fun e w' => e = .returned (.int .i64 (IntKind.i64.wrap (fld zs 10 8 : Nat))) ∧ w' = W) := fun W hW => dmnum_any (((HX1.out.below hW).cut 10 8 (by omega))) (by decide)
    obtain ⟨v1, e1⟩ : ∃ v, IntKind.i64.wrap (fld zs 0 4 : Nat) = v := ⟨_, rfl⟩
    obtain ⟨v2, e2⟩ : ∃ v, IntKind.i64.wrap (fld zs 4 2 : Nat) = v := ⟨_, rfl⟩
    obtain ⟨v3, e3⟩ : ∃ v, IntKind.i64.wrap (fld zs 6 4 : Nat) = v := ⟨_, rfl⟩
    obtain ⟨v4, e4⟩ : ∃ v, IntKind.i64.wrap (fld zs 10 8 : Nat) = v := ⟨_, rfl⟩
    rw [e1] at N1
    rw [e2] at N2
    rw [e3] at N3
    rw [e4] at N4
    have E1 := hide e1
    have E2 := hide e2
    have E3 := hide e3
    have E4 := hide e4
    clear e1 e2 e3 e4 hn
    have hc4 : (4 : Int) ≤ (c : Int) := by omega
    have hc6 : (6 : Int) ≤ (c : Int) := by omega
    have hc10 : (10 : Int) ≤ (c : Int) := by omega
    have hc18 : (18 : Int) ≤ (c : Int) := by omega
    go_enter Try.func24, Try.ntmps24
    go_wp2_with fail
    refine hnum.mono ?_
    rintro e w1 ⟨rfl, rfl⟩
    clear hnum
    go_wp2_with fail
    have hr := (Below.refl (w.alloc (.cells #[.int .i64 0, .int .i64 0, .int .i64 0, .int .i64 0, .slice none 0 0] 24)).heap.size (w.alloc (.cells #[.int .i64 0, .int .i64 0, .int .i64 0, .int .i64 0, .slice none 0 0] 24))).drew
    apply leafH
    · intro HEND
      have t0 : Hid True := trivial
      go_region_held3 (fun _ : World => True) (exact trivial)
        (first
        | (clear t0
           go_at_call 47
           refine (N1.out _ (by first | exact hr | exact hr.a1 _)).mono ?_
           rintro e y1 ⟨rfl, rfl⟩
           have t1 : Hid True := trivial)
        | (clear t1
           go_at_call 47
           refine (N2.out _ (by first | exact hr | exact hr.a1 _)).mono ?_
           rintro e y1 ⟨rfl, rfl⟩
           have t2 : Hid True := trivial)
        | (clear t2
           go_at_call 47
           refine (N3.out _ (by first | exact hr | exact hr.a1 _)).mono ?_
           rintro e y1 ⟨rfl, rfl⟩
           have t3 : Hid True := trivial)
        | (clear t3
           go_at_call 47
           refine (N4.out _ (by first | exact hr | exact hr.a1 _)).mono ?_
           rintro e y1 ⟨rfl, rfl⟩
           have t4 : Hid True := trivial))
      all_goals exact HEND .tok
    · clear hr N1 N2 N3 N4
      have B2 := below_new (w.alloc (.cells #[.int .i64 0, .int .i64 0, .int .i64 0, .int .i64 0, .slice none 0 0] 24)) (.cells #[.int .i64 v1, .int .i64 v2, .int .i64 v3, .int .i64 v4, .slice none 0 0] 24)
      have R2 := Box.put (w := w.alloc (.cells #[.int .i64 0, .int .i64 0, .int .i64 0, .int .i64 0, .slice none 0 0] 24)) (k := w.heap.size + 1) (.cells #[.int .i64 v1, .int .i64 v2, .int .i64 v3, .int .i64 v4, .slice none 0 0] 24) (by simp)
      have hsz : ((w.alloc (.cells #[.int .i64 0, .int .i64 0, .int .i64 0, .int .i64 0, .slice none 0 0] 24)).alloc (.cells #[.int .i64 v1, .int .i64 v2, .int .i64 v3, .int .i64 v4, .slice none 0 0] 24)).heap.size = w.heap.size + 2 := by simp
      have hsz1 : (w.alloc (.cells #[.int .i64 0, .int .i64 0, .int .i64 0, .int .i64 0, .slice none 0 0] 24)).heap.size = w.heap.size + 1 := by simp
      have HS1 := hide hsz1
      rw [hsz1] at B2
      have HB2 := hide B2.drew
      have HR2 := hide R2.drew
      have HS2 : Hid ((((w.alloc (.cells #[.int .i64 0, .int .i64 0, .int .i64 0, .int .i64 0, .slice none 0 0] 24)).alloc (.cells #[.int .i64 v1, .int .i64 v2, .int .i64 v3, .int .i64 v4, .slice none 0 0] 24)).drew).heap.size = w.heap.size + 2) := hsz
      have HX2 := hide (HX1.out.below (B2.mono (by rw [hsz1]; omega)).drew)
      have HZ2 := hide (((HR.out.below (below_new _ (.cells #[.int .i64 v1, .int .i64 v2, .int .i64 v3, .int .i64 v4, .slice none 0 0] 24))).drew))
      have HBW := hide (HB.out.trans (B2.mono (Nat.le_succ _)).drew)
      clear B2 R2 hsz hsz1 HX1 HB HR HS1
      obtain ⟨W2, hW2⟩ : ∃ W2, ((w.alloc (.cells #[.int .i64 0, .int .i64 0, .int .i64 0, .int .i64 0, .slice none 0 0] 24)).alloc (.cells #[.int .i64 v1, .int .i64 v2, .int .i64 v3, .int .i64 v4, .slice none 0 0] 24)).drew = W2 := ⟨_, rfl⟩
      rw [hW2] at HR2 HS2 HX2 HZ2 HBW ⊢
      clear hW2 HB2
      go_wp2
      go_loopw [5] (fun cnt wr => ∃ (i j : Nat) (q : Option Addr) (d : Nat), j ≤ C ∧ cnt = .int .i64 i ∧ Hid (i = 20 + 4 * j) ∧ Hid (Box wr (w.heap.size + 1) (.cells #[.int .i64 v1, .int .i64 v2, .int .i64 v3, .int .i64 v4, .slice q j d] 24)) ∧ Hid (OwnI (w.heap.size + 2) wr (.slice q j d) (quads j (zs.drop 20))) ∧ Hid (Below (w.heap.size + 1) W2 wr)) (fun cnt _ => n + 4 - (intOf cnt).toNat)
      case atStart => exact ⟨20, 0, none, 0, Nat.zero_le _, rfl, rfl, HR2.out, owni_nil _ _, Below.refl _ _⟩
      case round =>
        obtain ⟨i, j, q, d, hj, rfl, II, M, O, B⟩ := hrel
        have hI := II.out
        have hNN := HNN.out
        by_cases hjC : j < C
        · have hin : (i : Int) < (n : Int) := by rw [hI, hNN]; omega
          obtain ⟨_, _, _, _, c4⟩ := five_of M.out.drew
          obtain ⟨_, _, _, _, f4⟩ := five_thaw M.out.drew
          have HMM := hide M.out
          have hwi : IntKind.i64.wrap ((i : Int) + 4) = (i : Int) + 4 := wrap_in (by omega)
          have hic : (i : Int) + 4 ≤ (c : Int) := by omega
          have hii : (i : Int) ≤ (i : Int) + 4 := by omega
          have hi0 : 0 ≤ (i : Int) + 4 := by omega
          have hit : ((i : Int) + 4).toNat = i + 4 := by omega
          have hsub : i + 4 - i = 4 := by omega
          have hci : ¬ c = i := by omega
          have hjn : 20 + 4 * j + 4 ≤ n := by omega
          have hx4 := fld_lt HO.out i 4
          rw [show (256 : Nat) ^ 4 = 4294967296 by decide] at hx4
          have hXr := HX2.out.keep (Spared.of_below_lo B.out) (fun _ g' o' e hl => by
            simp only [Option.some.injEq, Addr.mk.injEq] at e
            have := HG.out
            omega)
          have hnu := dmnum_any (((hXr.below ((Below.refl _ _).drew)).cut i 4 (by omega))) (by decide)
          change Calls _ _ _ _ (fun e w' => e = .returned (.int .i64 (IntKind.i64.wrap (fld zs i 4 : Nat))) ∧ _) at hnu
          rw [wrap_in (x := ((fld zs i 4 : Nat) : Int)) (by omega)] at hnu
          have hqd := quads_one zs 20 j
          rw [← hI] at hqd
          have hsz : w.heap.size + 2 ≤ wr.drew.heap.size := by
            have h1 := B.out.size
            have h2 := HS2.out
            show w.heap.size + 2 ≤ wr.heap.size
            omega
          have hol := O.out.lenv
          obtain ⟨a6, c6, w6, hap, O6, B6⟩ := owni_append (O.out.below (Below.refl _ _).drew) ((fld zs i 4 : Nat) : Int) (by omega) (by omega) hsz
          rw [hol] at hap O6
          rw [← hqd] at O6
          have M6 := Box.lo (M.out.drew) B6 (Nat.lt_succ_self _)
          obtain ⟨_, _, _, _, e4⟩ := five_of M6
          obtain ⟨_, _, _, _, k4⟩ := five_thaw M6
          have HM6 := hide (M6.put1 4 (.slice a6 (j + 1) c6))
          have SC : Spared (fun k => k = w.heap.size + 1) w6 (w6.setCell ⟨w.heap.size + 1, 4, none⟩ (.slice a6 (j + 1) c6)) := (Spared.refl (fun k => k = w.heap.size + 1) w6).setCell (k := w.heap.size + 1) rfl 4 _
          have HO6 := hide (O6.spared SC (fun k hk => by omega))
          have HB6 := hide ((B.out.drew.trans (B6.mono (Nat.le_succ _))).setCell (p := ⟨w.heap.size + 1, 4, none⟩) (Nat.le_refl _) (.slice a6 (j + 1) c6))
          obtain ⟨x, hx⟩ : ∃ x : Int, ((fld zs i 4 : Nat) : Int) = x := ⟨_, rfl⟩
          rw [hx] at hnu hap
          obtain ⟨_, _, _, _, d4⟩ := five_of (HMM.out.below (below_new wr (.cells #[.int .i64 x] 3))).drew
          clear HMM hXr hqd hsz hol O6 B6 M6 SC hx hx4 hI hNN M O B
          go_wp2_with fail
          go_region_law (first
            | (go_simp
               go_at_call 47
               refine hnu.mono ?_
               rintro e w5 ⟨rfl, rfl⟩
               dsimp only)
            | (refine step_append_run rfl _ _ _ _ rfl _ _ rfl rfl _ _ hap ?_
               clear hap))
          all_goals
            clear hnu c4 f4 d4 e4 k4
            go_wp2
            exact ⟨⟨i + 4, j + 1, a6, c6, by omega, by go_num, by have := II.out; show i + 4 = 20 + 4 * (j + 1); omega, HM6.out, HO6.out, HB6.out⟩, by simp [intOf]; omega⟩
        · obtain rfl : j = C := by omega
          have hin : ¬ (i : Int) < (n : Int) := by omega
          have hI6 := O.out.intz
          have hck := dmcheck_any v1 v2 v3 v4 q j d _ wr hI6
          have hgm := getM_doc HO.out (by have := HL.out; omega) (by have := HL.out; have := HC.out; omega)
          rw [E4.out, HC.out] at hgm
          have e1 := E1.out
          have e2 := E2.out
          have e3 := E3.out
          have f1 := fld_lt HO.out 0 4
          have f2 := fld_lt HO.out 4 2
          have f3 := fld_lt HO.out 6 4
          rw [show (256 : Nat) ^ 4 = 4294967296 by decide] at f1 f3
          rw [show (256 : Nat) ^ 2 = 65536 by decide] at f2
          rw [wrap_in (by omega)] at e1 e2 e3
          rw [e1, e2, e3] at hgm
          have HGM := hide hgm
          have HI6 := hide (hI6.mono (Nat.le_succ _))
          have hzb : Box wr w.heap.size (.cells #[.int .i64 0, .int .i64 0, .int .i64 0, .int .i64 0, .slice none 0 0] 24) := Box.lo HZ2.out B.out (Nat.lt_succ_self _)
          have HZB := hide hzb
          have HBB := hide (HBW.out.trans (B.out.mono (Nat.le_succ _)))
          obtain ⟨c0, c1, c2, c3, c4⟩ := five_of M.out
          have HM := hide M.out
          clear hI hNN hI6 hgm e1 e2 e3 f1 f2 f3 hzb M O B
          by_cases hMay : MayM ⟨v1, v2, v3, v4, quads j (zs.drop 20)⟩
          · rw [checkM_yes hMay] at hck
            have hg2 := HGM.out
            rw [if_pos hMay] at hg2
            have HG2 := hide hg2
            clear hg2 HGM hMay
            go_wp2_with fail
            refine hck.mono ?_
            rintro e w7 ⟨rfl, b7⟩
            clear c0 c1 c2 c3 c4
            obtain ⟨c0, c1, c2, c3, c4⟩ := five_of (HM.out.below b7)
            have HZ7 := hide (HZB.out.below b7)
            have HB7 := hide (HBB.out.trans (b7.mono HBB.out.size))
            have HI7 := hide (HI6.out.below b7)
            clear hck b7
            go_wp2_with (refine wpList_store_row rfl 24 (.tmp 2) (.tmp 54) rfl w.heap.size #[.int .i64 v1, .int .i64 v2, .int .i64 v3, .int .i64 v4, .slice q j d] rfl rfl 24 _ HZ7.out.what (by kernel_rfl) rfl (by kernel_rfl) ?_)
            have HV3 := HZ7.out.setRow #[.int .i64 v1, .int .i64 v2, .int .i64 v3, .int .i64 v4, .slice q j d]
            obtain ⟨g0, g1, g2, g3, g4⟩ := five_of HV3
            refine bodyPost_ret (v := .tuple #[.agg #[.int .i64 v1, .int .i64 v2, .int .i64 v3, .int .i64 v4, .slice q j d], .int .i64 0]) (by simp [results, Try.f24, go_sem, g0, g1, g2, g3, g4]) rfl ?_
            rw [HG2.out]
            exact ⟨q, j, d, rfl, (HI7.out.above (fun k hk => setRow_other _ _ _ _ (by omega)) (by simp)).mono (Nat.le_succ _), below_setRow HB7.out (Nat.le_refl _) _⟩
          · rw [checkM_no hMay] at hck
            have hg2 := HGM.out
            rw [if_neg hMay] at hg2
            have HG2 := hide hg2
            clear hg2 HGM hMay
            go_wp2_with fail
            refine hck.mono ?_
            rintro e w7 ⟨rfl, b7⟩
            clear c0 c1 c2 c3 c4
            have HZ7 := hide (HZB.out.below b7)
            have HB7 := hide (HBB.out.trans (b7.mono HBB.out.size))
            clear hck b7
            go_wp2_with (refine wpList_store_row rfl 24 (.tmp 2) (.tmp 53) rfl w.heap.size #[.int .i64 0, .int .i64 0, .int .i64 0, .int .i64 0, .slice none 0 0] rfl rfl 24 _ HZ7.out.what (by kernel_rfl) rfl (by kernel_rfl) ?_)
            have HV3 := HZ7.out.setRow #[.int .i64 0, .int .i64 0, .int .i64 0, .int .i64 0, .slice none 0 0]
            obtain ⟨g0, g1, g2, g3, g4⟩ := five_of HV3
            refine bodyPost_ret (v := .tuple #[.agg #[.int .i64 0, .int .i64 0, .int .i64 0, .int .i64 0, .slice none 0 0], .int .i64 6]) (by simp [results, Try.f24, go_sem, g0, g1, g2, g3, g4]) rfl ?_
            rw [HG2.out]
            exact zero_said rfl (below_setRow HB7.out (Nat.le_refl _) _)
  · have hne : ((n : Int) != 20 + 4 * (C : Int)) = true := by simp; omega
    have hwm : IntKind.i64.wrap (4 * (C : Int)) = 4 * (C : Int) := wrap_in (by omega)
    have hwa : IntKind.i64.wrap (20 + 4 * (C : Int)) = 20 + 4 * (C : Int) := wrap_in (by omega)
    have hz : getM zs = (MV.zero, 6) := by
      unfold getM
      rw [if_neg]
      rintro ⟨⟨_, h1⟩, _⟩
      have := HL.out
      have := HC.out
      omega
    rw [hz]
    clear hz hn
    go_enter Try.func24, Try.ntmps24
    go_wp2_with fail
    refine hnum.mono ?_
    rintro e w1 ⟨rfl, rfl⟩
    clear hnum
    go_wp2
    refine bodyPost_ret (v := .tuple #[.agg #[.int .i64 0, .int .i64 0, .int .i64 0, .int .i64 0, .slice none 0 0], .int .i64 6]) (by simp [results, Try.f24, go_sem]) rfl ?_
    exact zero_said rfl HB.out
theorem dmget_any {a : Option Addr} {n c : Nat} {zs : List Int} {lo : Nat} {w : World} (X : Byt lo w (.slice a n c) zs) (hbig : n ≤ 300000) :
    Calls Try.prog 24 #[.slice a n c] w (GetSaid (getM zs) w) := by
  by_cases h : n < 20
  · exact dmget_few X h
  · obtain ⟨g, o, rfl, _⟩ := X.row (by omega)
    exact dmget_some X h hbig
theorem getM_len (zs : List Int) : (getM zs).1.ts.length ≤ 10000 := by
  unfold getM
  split
  · rename_i h
    exact h.2.2.2.2.2.2.1
  · exact Nat.zero_le _
set_option maxRecDepth 100000 in
set_option maxHeartbeats 1000000 in
theorem mreads_long (a : Option Addr) (n c : Nat) (w : World) (h : 500 < n) :
    Calls Try.prog 4 #[.slice a n c] w fun e w' => e = .returned (.bool true) ∧ Below w.heap.size w w' := by
  have hk := mawake_any w
  have hi : 500 < (n : Int) := by omega
  go_enter Try.func4, Try.ntmps4
  go_wp2_with fail
  refine hk.mono ?_
  rintro e w1 ⟨rfl, hb⟩
  clear hk
  go_wp2
  go_ret
  exact ⟨rfl, hb⟩
set_option maxRecDepth 100000 in
set_option maxHeartbeats 2000000 in
theorem mreads_short {a : Option Addr} {n c : Nat} {zs : List Int} {w : World} (X : Byt 0 w (.slice a n c) zs) (h : n ≤ 500) :
    Calls Try.prog 4 #[.slice a n c] w fun e w' => e = .returned (.bool true) ∧ Below w.heap.size w w' := by
  have hi : ¬ 500 < (n : Int) := by omega
  have hl := copyb_all X (by omega)
  have HX := hide X
  have HH := hide h
  clear X h
  go_enter Try.func4, Try.ntmps4
  go_wp2_with fail
  refine hl.mono ?_
  rintro e w1 ⟨a1, c1, rfl, L1, b1⟩
  have hg := mfget_any L1
  obtain ⟨⟨⟨z, y, k, s, ts⟩, er⟩, hP⟩ : ∃ q, getM zs = q := ⟨_, rfl⟩
  have htl := getM_len zs
  rw [hP] at hg htl
  dsimp only at htl
  have HTL := hide htl
  have HP := hide hP
  have HL := hide L1
  have HB1 := hide b1
  clear hl L1 b1 hP htl
  go_wp2_with fail
  refine hg.mono ?_
  rintro e w2 ⟨a2, n2, c2, rfl, Y2, b2⟩
  dsimp only at Y2 ⊢
  have Q2 := below_new w2 (.cells #[.int .i64 z, .int .i64 y, .int .i64 k, .int .i64 s, .slice a2 n2 c2] 24)
  have HB2 := hide (HB1.out.trans ((b2.trans (Q2.mono b2.size)).mono HB1.out.size))
  have HB12 := hide (b2.trans (Q2.mono b2.size))
  have HY2 := hide (Y2.below Q2)
  have HBX := hide (Box.new w2 (.cells #[.int .i64 z, .int .i64 y, .int .i64 k, .int .i64 s, .slice a2 n2 c2] 24))
  have hh := dmget_any (HX.out.below HB2.out) (by have := HH.out; omega)
  rw [HP.out] at hh
  have HHI := hide (Y2.below Q2).block
  clear hg Y2 b2 Q2
  go_wp2_with fail
  refine hh.mono ?_
  rintro e w3 ⟨a3, n3, c3, rfl, Y3, b3⟩
  dsimp only at Y3 ⊢
  have Q3 := below_new w3 (.cells #[.int .i64 z, .int .i64 y, .int .i64 k, .int .i64 s, .slice a3 n3 c3] 24)
  have B3 := b3.trans (Q3.mono b3.size)
  have hn2 : n2 ≤ 10000 := by have h1 := HY2.out.len.1; have h2 := HTL.out; omega
  have hsp := samem_any z y k s z y k s a2 a3 n2 c2 n3 c3 _ _ ts ts (w3.alloc (.cells #[.int .i64 z, .int .i64 y, .int .i64 k, .int .i64 s, .slice a3 n3 c3] 24)) (HY2.out.below B3) (Y3.below Q3) (by omega)
  rw [sameMV_self] at hsp
  obtain ⟨k0, k1, k2, k3, k4⟩ := five_of (HBX.out.below B3)
  obtain ⟨j0, j1, j2, j3, j4⟩ := five_of (Box.new w3 (.cells #[.int .i64 z, .int .i64 y, .int .i64 k, .int .i64 s, .slice a3 n3 c3] 24))
  have HB3 := hide (HB2.out.trans (B3.mono HB2.out.size))
  have HB13 := hide (HB12.out.trans (B3.mono HB12.out.size))
  have HY3 := hide (HY2.out.below B3)
  have HBX3 := hide (HBX.out.below B3)
  have HHI3 := hide (fun hz b o e => Nat.lt_of_lt_of_le (HHI.out hz b o e) B3.size)
  have hee : (er == er) = true := beq_self_eq_true _
  have HN2 := hide hn2
  clear hh Y3 b3 Q3 B3 HB2 HB12 HY2 HBX HHI hn2
  go_wp2_with fail
  refine hsp.mono ?_
  rintro e w4 ⟨rfl, b4⟩
  have hov := overi_any (HY3.out.below b4) (by have := HN2.out; omega) w4.heap.size (fun hz b o e => Nat.lt_of_lt_of_le (HHI3.out hz b o e) b4.size)
  clear k0 k1 k2 k3 k4 j0 j1 j2 j3 j4
  obtain ⟨k0, k1, k2, k3, k4⟩ := five_of (HBX3.out.below b4)
  have HB4 := hide (HB3.out.trans (b4.mono HB3.out.size))
  have HB14 := hide (HB13.out.trans (b4.mono HB13.out.size))
  clear hsp b4 HB3 HB13 HY3 HBX3 HHI3
  go_wp2_with fail
  refine hov.mono ?_
  rintro e w5 ⟨rfl, b5, _⟩
  have B15 : Below w1.heap.size w1 w5 := HB14.out.trans b5
  have B05 : Below w.heap.size w w5 := HB4.out.trans (b5.mono HB1.out.size)
  have hke := sameb_yes (HL.out.below B15) (HX.out.below B05) rfl
  have HB5 := hide B05
  clear hov b5 B15 B05 k0 k1 k2 k3 k4 HB14 HB4
  go_wp2_with fail
  refine hke.mono ?_
  rintro e w6 ⟨rfl, b6⟩
  have HB6 := hide (HB5.out.trans (b6.mono HB5.out.size))
  have hak := mawake_any w6
  clear hke b6 HB5
  go_wp2_with fail
  refine hak.mono ?_
  rintro e w7 ⟨rfl, b7⟩
  have HB7 := hide (HB6.out.trans (b7.mono HB6.out.size))
  clear hak b7
  go_wp2
  go_ret
  exact ⟨rfl, HB7.out⟩
theorem mreads_any {a : Option Addr} {n c : Nat} {zs : List Int} {w : World} (X : Byt 0 w (.slice a n c) zs) :
    Calls Try.prog 4 #[.slice a n c] w fun e w' => e = .returned (.bool true) ∧ Below w.heap.size w w' := by
  by_cases h : n ≤ 500
  · exact mreads_short X h
  · exact mreads_long a n c w (by omega)
end Go.Proofs.Ytbebdeaeegcfkaa
