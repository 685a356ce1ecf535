/-
  Joined: MGet MPut MWords MHPut MTells.
-/
import Derived.Test.YtbebdeaeegcfkaaJMKit
import Derived.Test.YtbebdeaeegcfkaaJWiden
import Derived.Test.YtbebdeaeegcfkaaJRMulB
import Derived.Test.YtbebdeaeegcfkaaJOMem
namespace Go.Proofs.Ytbebdeaeegcfkaa
open Go.RowKit
theorem getR_ok {zs : List Int} {t : Nat} {k : Int} {K : Nat} (hk : k = K) (hw : IsW k) (hl : t + K ≤ zs.length) (hv : fld zs t K < 9223372036854775808) : getR zs ⟨t, 0, 0⟩ k = (fld zs t K, ⟨t + K, 0, 0⟩) := by
  subst hk
  unfold fld at hv ⊢
  unfold getR
  rw [if_pos rfl, if_pos hw, if_neg (by dsimp only; omega), Int.toNat_natCast, if_pos hv]
theorem getR_no {zs : List Int} {s : RS} {k : Int} (h : ¬ s.er = 0) : ¬ (getR zs s k).2.er = 0 := by
  unfold getR
  rw [if_neg h]
  exact h
theorem getR_short {zs : List Int} {t : Nat} {k : Int} (hw : IsW k) (hl : (zs.length : Int) < t + k) : ¬ (getR zs ⟨t, 0, 0⟩ k).2.er = 0 := by
  unfold getR
  rw [if_pos rfl, if_pos hw, if_pos (by dsimp only; omega)]
  show ¬ (7 : Int) = 0
  decide
theorem getR_great {zs : List Int} {t : Nat} {k : Int} {K : Nat} (hk : k = K) (hw : IsW k) (hl : t + K ≤ zs.length) (hv : ¬ fld zs t K < 9223372036854775808) : ¬ (getR zs ⟨t, 0, 0⟩ k).2.er = 0 := by
  subst hk
  unfold fld at hv
  unfold getR
  rw [if_pos rfl, if_pos hw, if_neg (by dsimp only; omega), Int.toNat_natCast, if_neg hv]
  show ¬ (3 : Int) = 0
  decide
theorem fld_lt {zs : List Int} (ho : Octs zs) (t K : Nat) : fld zs t K < 256 ^ K := by
  unfold fld
  have h1 := nb_lt ((zs.drop t).take K) ((ho.drop t).take K)
  have h2 : ((zs.drop t).take K).length ≤ K := by rw [List.length_take]; omega
  exact Nat.lt_of_lt_of_le h1 (Nat.pow_le_pow_right (by decide) h2)
theorem head_yes {zs : List Int} (ho : Octs zs) (hl : 20 ≤ zs.length) (hv : fld zs 10 8 < 9223372036854775808) :
    q1 zs ⟨0, 0, 0⟩ = (fld zs 0 4, ⟨4, 0, 0⟩) ∧ q2 zs ⟨0, 0, 0⟩ = (fld zs 4 2, ⟨6, 0, 0⟩) ∧ q3 zs ⟨0, 0, 0⟩ = (fld zs 6 4, ⟨10, 0, 0⟩) ∧ q4 zs ⟨0, 0, 0⟩ = (fld zs 10 8, ⟨18, 0, 0⟩) ∧ q5 zs ⟨0, 0, 0⟩ = (fld zs 18 2, ⟨20, 0, 0⟩) := by
  have p4 : (256 : Nat) ^ 4 = 4294967296 := by decide
  have p2 : (256 : Nat) ^ 2 = 65536 := by decide
  have f0 := fld_lt ho 0 4
  have f4 := fld_lt ho 4 2
  have f6 := fld_lt ho 6 4
  have f18 := fld_lt ho 18 2
  rw [p4] at f0 f6
  rw [p2] at f4 f18
  have e1 : q1 zs ⟨0, 0, 0⟩ = (fld zs 0 4, ⟨4, 0, 0⟩) := getR_ok (K := 4) rfl (by decide) (by omega) (by omega)
  have e2 : q2 zs ⟨0, 0, 0⟩ = (fld zs 4 2, ⟨6, 0, 0⟩) := by unfold q2; rw [e1]; exact getR_ok (K := 2) rfl (by decide) (by omega) (by omega)
  have e3 : q3 zs ⟨0, 0, 0⟩ = (fld zs 6 4, ⟨10, 0, 0⟩) := by unfold q3; rw [e2]; exact getR_ok (K := 4) rfl (by decide) (by omega) (by omega)
  have e4 : q4 zs ⟨0, 0, 0⟩ = (fld zs 10 8, ⟨18, 0, 0⟩) := by unfold q4; rw [e3]; exact getR_ok (K := 8) rfl (by decide) (by omega) hv
  have e5 : q5 zs ⟨0, 0, 0⟩ = (fld zs 18 2, ⟨20, 0, 0⟩) := by unfold q5; rw [e4]; exact getR_ok (K := 2) rfl (by decide) (by omega) (by omega)
  exact ⟨e1, e2, e3, e4, e5⟩
theorem head_no {zs : List Int} (ho : Octs zs) (h : zs.length < 20 ∨ ¬ fld zs 10 8 < 9223372036854775808) : ¬ (q5 zs ⟨0, 0, 0⟩).2.er = 0 := by
  have p4 : (256 : Nat) ^ 4 = 4294967296 := by decide
  have p2 : (256 : Nat) ^ 2 = 65536 := by decide
  have f0 := fld_lt ho 0 4
  have f4 := fld_lt ho 4 2
  have f6 := fld_lt ho 6 4
  rw [p4] at f0 f6
  rw [p2] at f4
  by_cases l1 : zs.length < 4
  · have e1 : ¬ (q1 zs ⟨0, 0, 0⟩).2.er = 0 := getR_short (by decide) (by show (zs.length : Int) < (0 : Nat) + 4; omega)
    exact getR_no (getR_no (getR_no (getR_no e1)))
  have e1 : q1 zs ⟨0, 0, 0⟩ = (fld zs 0 4, ⟨4, 0, 0⟩) := getR_ok (K := 4) rfl (by decide) (by omega) (by omega)
  by_cases l2 : zs.length < 6
  · have e2 : ¬ (q2 zs ⟨0, 0, 0⟩).2.er = 0 := by unfold q2; rw [e1]; exact getR_short (by decide) (by show (zs.length : Int) < (4 : Nat) + 2; omega)
    exact getR_no (getR_no (getR_no e2))
  have e2 : q2 zs ⟨0, 0, 0⟩ = (fld zs 4 2, ⟨6, 0, 0⟩) := by unfold q2; rw [e1]; exact getR_ok (K := 2) rfl (by decide) (by omega) (by omega)
  by_cases l3 : zs.length < 10
  · have e3 : ¬ (q3 zs ⟨0, 0, 0⟩).2.er = 0 := by unfold q3; rw [e2]; exact getR_short (by decide) (by show (zs.length : Int) < (6 : Nat) + 4; omega)
    exact getR_no (getR_no e3)
  have e3 : q3 zs ⟨0, 0, 0⟩ = (fld zs 6 4, ⟨10, 0, 0⟩) := by unfold q3; rw [e2]; exact getR_ok (K := 4) rfl (by decide) (by omega) (by omega)
  by_cases l4 : zs.length < 18
  · have e4 : ¬ (q4 zs ⟨0, 0, 0⟩).2.er = 0 := by unfold q4; rw [e3]; exact getR_short (by decide) (by show (zs.length : Int) < (10 : Nat) + 8; omega)
    exact getR_no e4
  by_cases hv : fld zs 10 8 < 9223372036854775808
  · have e4 : q4 zs ⟨0, 0, 0⟩ = (fld zs 10 8, ⟨18, 0, 0⟩) := by unfold q4; rw [e3]; exact getR_ok (K := 8) rfl (by decide) (by omega) hv
    have l5 : zs.length < 20 := h.elim id (fun h => absurd hv h)
    unfold q5
    rw [e4]
    exact getR_short (by decide) (by show (zs.length : Int) < (18 : Nat) + 2; omega)
  · have e4 : ¬ (q4 zs ⟨0, 0, 0⟩).2.er = 0 := by unfold q4; rw [e3]; exact getR_great (K := 8) rfl (by decide) (by omega) hv
    exact getR_no e4
theorem getM_fault {zs : List Int} (ho : Octs zs) {v5 : Nat} {s5 u : RS} {L : List Int} (h5 : q5 zs ⟨0, 0, 0⟩ = (v5, s5)) (h : (s5.er = 0 ∧ u = ⟨zs.length, 0, 0⟩ ∧ s5.at_ + 4 * L.length = zs.length ∧ L = quads L.length (zs.drop s5.at_)) ∨ (¬ u.er = 0 ∧ (s5.er = 0 → ¬ (zs.length - s5.at_) % 4 = 0))) (hu : ¬ u.er = 0) : getM zs = (MV.zero, 6) := by
  rcases h with ⟨_, e, _⟩ | ⟨_, hd⟩
  · rw [e] at hu
    exact absurd rfl hu
  · unfold getM
    rw [if_neg]
    rintro ⟨⟨h1, h2⟩, h3, _⟩
    have hy := (head_yes ho h1 (by omega)).2.2.2.2
    rw [h5] at hy
    obtain ⟨_, rfl⟩ := Prod.mk.inj hy
    exact hd rfl (by dsimp only; omega)
theorem run_field0 (x y : Int) (W : World) : (Instr.field 71 (.agg #[.int .i64 x, .int .i64 y]) 0).run Try.prog W = .ok (.int .i64 x) W := by
  simp [Instr.field, asAgg, run_underlying Try.underlying71, go_sem]
theorem got_whole {zs : List Int} (ho : Octs zs) {v1 v2 v3 v4 v5 : Nat} {s1 s2 s3 s4 s5 u : RS} {L : List Int} (h1 : q1 zs ⟨0, 0, 0⟩ = (v1, s1)) (h2 : q2 zs ⟨0, 0, 0⟩ = (v2, s2)) (h3 : q3 zs ⟨0, 0, 0⟩ = (v3, s3)) (h4 : q4 zs ⟨0, 0, 0⟩ = (v4, s4)) (h5 : q5 zs ⟨0, 0, 0⟩ = (v5, s5))
    (h : (s5.er = 0 ∧ u = ⟨zs.length, 0, 0⟩ ∧ s5.at_ + 4 * L.length = zs.length ∧ L = quads L.length (zs.drop s5.at_)) ∨ (¬ u.er = 0 ∧ (s5.er = 0 → ¬ (zs.length - s5.at_) % 4 = 0))) (hu : u.er = 0) :
    u = ⟨zs.length, 0, 0⟩ ∧ 20 + 4 * L.length = zs.length ∧ L = quads L.length (zs.drop 20) ∧ v1 = fld zs 0 4 ∧ v2 = fld zs 4 2 ∧ v3 = fld zs 6 4 ∧ (v4 = fld zs 10 8 ∧ v4 ≤ 9223372036854775807) ∧ v5 = cnt zs := by
  rcases h with ⟨h0, e, hl, hL⟩ | ⟨hn, _⟩
  · have hlen : ¬ zs.length < 20 := fun h => head_no ho (.inl h) (by rw [h5]; exact h0)
    have hv : fld zs 10 8 < 9223372036854775808 := Classical.byContradiction fun h => head_no ho (.inr h) (by rw [h5]; exact h0)
    obtain ⟨y1, y2, y3, y4, y5⟩ := head_yes ho (by omega) hv
    rw [h1] at y1
    rw [h2] at y2
    rw [h3] at y3
    rw [h4] at y4
    rw [h5] at y5
    obtain ⟨rfl, _⟩ := Prod.mk.inj y1
    obtain ⟨rfl, _⟩ := Prod.mk.inj y2
    obtain ⟨rfl, _⟩ := Prod.mk.inj y3
    obtain ⟨rfl, _⟩ := Prod.mk.inj y4
    obtain ⟨rfl, rfl⟩ := Prod.mk.inj y5
    exact ⟨e, hl, hL, rfl, rfl, rfl, ⟨rfl, by omega⟩, rfl⟩
  · exact absurd hu hn
theorem get_whole {zs : List Int} {v1 v2 v3 v4 v5 : Nat} {L : List Int} (hl : 20 + 4 * L.length = zs.length) (hL : L = quads L.length (zs.drop 20)) (h1 : v1 = fld zs 0 4) (h2 : v2 = fld zs 4 2) (h3 : v3 = fld zs 6 4) (h4 : v4 = fld zs 10 8 ∧ v4 ≤ 9223372036854775807) (h5 : v5 = cnt zs) :
    (v5 = L.length → getM zs = if MayM ⟨v1, v2, v3, v4, L⟩ then (⟨v1, v2, v3, v4, L⟩, 0) else (MV.zero, 6)) ∧ (¬ v5 = L.length → getM zs = (MV.zero, 6)) := by
  constructor
  · intro hc
    have hd : docM zs = ⟨v1, v2, v3, v4, L⟩ := by
      unfold docM
      rw [← h1, ← h2, ← h3, ← h4.1, ← h5, hc, ← hL]
    unfold getM
    rw [hd]
    by_cases hM : MayM ⟨v1, v2, v3, v4, L⟩
    · rw [if_pos hM, if_pos ⟨⟨by omega, by rw [← h5]; omega⟩, by rw [← h4.1]; omega, hM⟩]
    · rw [if_neg hM, if_neg (fun h => hM h.2.2)]
  · intro hc
    unfold getM
    rw [if_neg]
    rintro ⟨⟨_, h⟩, _⟩
    rw [← h5] at h
    omega
def GetSaid (q : MV × Int) (w : World) (e : Ending) (w' : World) : Prop := ∃ (a : Option Addr) (n c : Nat), e = .returned (.tuple #[.agg #[.int .i64 q.1.size, .int .i64 q.1.sym, .int .i64 q.1.k, .int .i64 q.1.seed, .slice a n c], .int .i64 q.2]) ∧ Intz w.heap.size w' (.slice a n c) q.1.ts ∧ Below w.heap.size w w'
theorem getM_far {zs : List Int} (h : 40020 < zs.length) : getM zs = (MV.zero, 6) := by
  unfold getM
  rw [if_neg]
  rintro ⟨⟨_, h2⟩, _, hM⟩
  have h5 := hM.2.2.2.2.1
  have : (docM zs).ts.length = cnt zs := by simp [docM, quads]
  omega
theorem zero_said {w w' : World} {e : Ending} (he : e = .returned (.tuple #[.agg #[.int .i64 0, .int .i64 0, .int .i64 0, .int .i64 0, .slice none 0 0], .int .i64 6])) (hb : Below w.heap.size w w') : GetSaid (MV.zero, 6) w e w' := ⟨none, 0, 0, he, Intz.nil _ _, hb⟩
set_option maxRecDepth 100000 in
set_option maxHeartbeats 2000000 in
theorem mfget_far {a : Option Addr} {n c : Nat} {zs : List Int} {lo : Nat} {w : World} (X : Byt lo w (.slice a n c) zs) (h : 40020 < n) :
    Calls Try.prog 23 #[.slice a n c] w (GetSaid (getM zs) w) := by
  rw [getM_far (by have := X.len.1; omega)]
  have hi : 40020 < (n : Int) := by omega
  have HB := hide (below_new w (.cells #[.int .i64 0, .int .i64 0, .int .i64 0, .int .i64 0, .slice none 0 0] 24))
  clear X h
  go_enter Try.func23, Try.ntmps23
  go_wp2
  refine bodyPost_ret (v := .tuple #[.agg #[.int .i64 0, .int .i64 0, .int .i64 0, .int .i64 0, .slice none 0 0], .int .i64 6]) (by simp [results, Try.f23, go_sem]) rfl ?_
  exact zero_said rfl HB.out
structure GM (base lo r cu n d T F m dd Z : Nat) (b g : Option Addr) (zs L : List Int) (s u : RS) (v1 v2 v3 v4 v5 : Nat) (w W : World) : Prop where
  rd : PR lo W r cu b n d zs u
  told : Box W T (.cells #[.int .i64 (v1 : Nat), .int .i64 (v2 : Nat), .int .i64 (v3 : Nat), .int .i64 (v4 : Nat), .int .i64 (v5 : Nat)] 56)
  got : Box W F (.cells #[.int .i64 (v1 : Nat), .int .i64 (v2 : Nat), .int .i64 (v3 : Nat), .int .i64 (v4 : Nat), .slice g m dd] 24)
  ts : Intz (base + 1) W (.slice g m dd) L
  zero : Box W Z (.cells #[.int .i64 0, .int .i64 0, .int .i64 0, .int .i64 0, .slice none 0 0] 24)
  below : Below base w W
  said : (s.er = 0 ∧ u = ⟨zs.length, 0, 0⟩ ∧ s.at_ + 4 * L.length = zs.length ∧ L = quads L.length (zs.drop s.at_)) ∨ (¬ u.er = 0 ∧ (s.er = 0 → ¬ (zs.length - s.at_) % 4 = 0))
theorem PR.drew {lo r c n cap : Nat} {a : Option Addr} {zs : List Int} {s : RS} {A : World} (h : PR lo A r c a n cap zs s) : PR lo A.drew r c a n cap zs s := ⟨Box.drew h.rdr, Box.drew h.cur, h.byt, h.ok, h.small⟩
theorem GMid.late {base lo r cu n d m dd Z : Nat} {b g : Option Addr} {zs L : List Int} {s u : RS} {v1 v2 v3 v4 v5 : Nat} {w w3 w5 : World}
    (hB : Below base w (w3.alloc (.cells #[.int .i64 (v1 : Nat), .int .i64 (v2 : Nat), .int .i64 (v3 : Nat), .int .i64 (v4 : Nat), .int .i64 (v5 : Nat)] 56)))
    (R : Box (w3.alloc (.cells #[.int .i64 (v1 : Nat), .int .i64 (v2 : Nat), .int .i64 (v3 : Nat), .int .i64 (v4 : Nat), .int .i64 (v5 : Nat)] 56)) w3.heap.size (.cells #[.int .i64 (v1 : Nat), .int .i64 (v2 : Nat), .int .i64 (v3 : Nat), .int .i64 (v4 : Nat), .int .i64 (v5 : Nat)] 56))
    (hC : base ≤ cu ∧ cu < w3.heap.size ∧ base ≤ w3.heap.size) (HZ : Box (w3.alloc (.cells #[.int .i64 (v1 : Nat), .int .i64 (v2 : Nat), .int .i64 (v3 : Nat), .int .i64 (v4 : Nat), .int .i64 (v5 : Nat)] 56)) Z (.cells #[.int .i64 0, .int .i64 0, .int .i64 0, .int .i64 0, .slice none 0 0] 24)) (hZ : ¬ Z = cu)
    (I : Intz (w3.alloc (.cells #[.int .i64 (v1 : Nat), .int .i64 (v2 : Nat), .int .i64 (v3 : Nat), .int .i64 (v4 : Nat), .int .i64 (v5 : Nat)] 56)).drew.heap.size w5 (.slice g m dd) L) (P : PR lo w5 r cu b n d zs u)
    (S : Spared (fun k => k = cu) (w3.alloc (.cells #[.int .i64 (v1 : Nat), .int .i64 (v2 : Nat), .int .i64 (v3 : Nat), .int .i64 (v4 : Nat), .int .i64 (v5 : Nat)] 56)).drew w5) :
    Box w5 w3.heap.size (.cells #[.int .i64 (v1 : Nat), .int .i64 (v2 : Nat), .int .i64 (v3 : Nat), .int .i64 (v4 : Nat), .int .i64 (v5 : Nat)] 56) ∧ ∀ _ : True, ((s.er = 0 ∧ u = ⟨zs.length, 0, 0⟩ ∧ s.at_ + 4 * L.length = zs.length ∧ L = quads L.length (zs.drop s.at_)) ∨ (¬ u.er = 0 ∧ (s.er = 0 → ¬ (zs.length - s.at_) % 4 = 0))) →
      GM base lo r cu n d w3.heap.size w5.heap.size m dd Z b g zs L s u v1 v2 v3 v4 v5 w (w5.alloc (.cells #[.int .i64 (v1 : Nat), .int .i64 (v2 : Nat), .int .i64 (v3 : Nat), .int .i64 (v4 : Nat), .slice g m dd] 24)) := by
  have R5 := (Box.drew R).spared S (by omega)
  have B5 := below_new w5 (.cells #[.int .i64 (v1 : Nat), .int .i64 (v2 : Nat), .int .i64 (v3 : Nat), .int .i64 (v4 : Nat), .slice g m dd] 24)
  have hBw : Below base w w5 := (hB.drew).trans (S.to_below (by show base ≤ (w3.alloc _).heap.size; simp; omega) (fun k hk => by omega))
  have hb5 : base ≤ w5.heap.size := by have := R5.lt; omega
  refine ⟨R5, fun _ D => ⟨P.below B5, R5.below B5, Box.new w5 _, (I.mono (by show base + 1 ≤ (w3.alloc _).heap.size; simp; omega)).below B5, ((Box.drew HZ).spared S hZ).below B5, hBw.trans (B5.mono hb5), D⟩⟩
theorem GMid.early {base lo r cu n d m dd Z : Nat} {b g : Option Addr} {zs L : List Int} {s u : RS} {v1 v2 v3 v4 v5 : Nat} {w w3 w5 : World}
    (hB : Below base w (w3.alloc (.cells #[.int .i64 (v1 : Nat), .int .i64 (v2 : Nat), .int .i64 (v3 : Nat), .int .i64 (v4 : Nat), .int .i64 (v5 : Nat)] 56)))
    (R : Box (w3.alloc (.cells #[.int .i64 (v1 : Nat), .int .i64 (v2 : Nat), .int .i64 (v3 : Nat), .int .i64 (v4 : Nat), .int .i64 (v5 : Nat)] 56)) w3.heap.size (.cells #[.int .i64 (v1 : Nat), .int .i64 (v2 : Nat), .int .i64 (v3 : Nat), .int .i64 (v4 : Nat), .int .i64 (v5 : Nat)] 56))
    (hC : base ≤ cu ∧ cu < w3.heap.size ∧ base ≤ w3.heap.size) (HZ : Box (w3.alloc (.cells #[.int .i64 (v1 : Nat), .int .i64 (v2 : Nat), .int .i64 (v3 : Nat), .int .i64 (v4 : Nat), .int .i64 (v5 : Nat)] 56)) Z (.cells #[.int .i64 0, .int .i64 0, .int .i64 0, .int .i64 0, .slice none 0 0] 24)) (hZ : ¬ Z = cu)
    (I : Intz ((w3.alloc (.cells #[.int .i64 (v1 : Nat), .int .i64 (v2 : Nat), .int .i64 (v3 : Nat), .int .i64 (v4 : Nat), .int .i64 (v5 : Nat)] 56)).drew.alloc (.cells #[.int .i64 0, .int .i64 0, .int .i64 0, .int .i64 0, .slice none 0 0] 24)).heap.size w5 (.slice g m dd) L) (P : PR lo w5 r cu b n d zs u)
    (S : Spared (fun k => k = cu) ((w3.alloc (.cells #[.int .i64 (v1 : Nat), .int .i64 (v2 : Nat), .int .i64 (v3 : Nat), .int .i64 (v4 : Nat), .int .i64 (v5 : Nat)] 56)).drew.alloc (.cells #[.int .i64 0, .int .i64 0, .int .i64 0, .int .i64 0, .slice none 0 0] 24)) w5) :
    Box w5 w3.heap.size (.cells #[.int .i64 (v1 : Nat), .int .i64 (v2 : Nat), .int .i64 (v3 : Nat), .int .i64 (v4 : Nat), .int .i64 (v5 : Nat)] 56) ∧ Box w5 (w3.heap.size + 1) (.cells #[.int .i64 0, .int .i64 0, .int .i64 0, .int .i64 0, .slice none 0 0] 24) ∧
    Box (w5.setRow (w3.heap.size + 1) #[.int .i64 (v1 : Nat), .int .i64 (v2 : Nat), .int .i64 (v3 : Nat), .int .i64 (v4 : Nat), .slice g m dd]) w3.heap.size (.cells #[.int .i64 (v1 : Nat), .int .i64 (v2 : Nat), .int .i64 (v3 : Nat), .int .i64 (v4 : Nat), .int .i64 (v5 : Nat)] 56) ∧ ∀ _ : True, ((s.er = 0 ∧ u = ⟨zs.length, 0, 0⟩ ∧ s.at_ + 4 * L.length = zs.length ∧ L = quads L.length (zs.drop s.at_)) ∨ (¬ u.er = 0 ∧ (s.er = 0 → ¬ (zs.length - s.at_) % 4 = 0))) →
      GM base lo r cu n d w3.heap.size (w3.heap.size + 1) m dd Z b g zs L s u v1 v2 v3 v4 v5 w (w5.setRow (w3.heap.size + 1) #[.int .i64 (v1 : Nat), .int .i64 (v2 : Nat), .int .i64 (v3 : Nat), .int .i64 (v4 : Nat), .slice g m dd]) := by
  have B4 := below_new (w3.alloc (.cells #[.int .i64 (v1 : Nat), .int .i64 (v2 : Nat), .int .i64 (v3 : Nat), .int .i64 (v4 : Nat), .int .i64 (v5 : Nat)] 56)).drew (.cells #[.int .i64 0, .int .i64 0, .int .i64 0, .int .i64 0, .slice none 0 0] 24)
  have F4 := Box.put (w := (w3.alloc (.cells #[.int .i64 (v1 : Nat), .int .i64 (v2 : Nat), .int .i64 (v3 : Nat), .int .i64 (v4 : Nat), .int .i64 (v5 : Nat)] 56)).drew) (k := w3.heap.size + 1) (.cells #[.int .i64 0, .int .i64 0, .int .i64 0, .int .i64 0, .slice none 0 0] 24) (by show (w3.alloc _).heap.size = _; simp)
  have hsz : ((w3.alloc (.cells #[.int .i64 (v1 : Nat), .int .i64 (v2 : Nat), .int .i64 (v3 : Nat), .int .i64 (v4 : Nat), .int .i64 (v5 : Nat)] 56)).drew.alloc (.cells #[.int .i64 0, .int .i64 0, .int .i64 0, .int .i64 0, .slice none 0 0] 24)).heap.size = w3.heap.size + 2 := by simp [World.drew]
  have hb4 : base ≤ (w3.alloc (.cells #[.int .i64 (v1 : Nat), .int .i64 (v2 : Nat), .int .i64 (v3 : Nat), .int .i64 (v4 : Nat), .int .i64 (v5 : Nat)] 56)).drew.heap.size := by show base ≤ (w3.alloc _).heap.size; simp; omega
  have R5 := ((Box.drew R).below B4).spared S (by omega)
  have F5 := F4.spared S (by omega)
  have hBw : Below base w w5 := ((hB.drew).trans (B4.mono hb4)).trans (S.to_below (by omega) (fun k hk => by omega))
  have F6 := F5.setRow #[.int .i64 (v1 : Nat), .int .i64 (v2 : Nat), .int .i64 (v3 : Nat), .int .i64 (v4 : Nat), .slice g m dd]
  have R6 := R5.row_other (by omega : w3.heap.size ≠ w3.heap.size + 1) #[.int .i64 (v1 : Nat), .int .i64 (v2 : Nat), .int .i64 (v3 : Nat), .int .i64 (v4 : Nat), .slice g m dd]
  have SR : Spared (fun k => k = w3.heap.size + 1) w5 (w5.setRow (w3.heap.size + 1) #[.int .i64 (v1 : Nat), .int .i64 (v2 : Nat), .int .i64 (v3 : Nat), .int .i64 (v4 : Nat), .slice g m dd]) := ⟨below_setRow (Below.refl _ _) (Nat.zero_le _) _, fun k hk hf => setRow_other _ _ _ _ hf⟩
  refine ⟨R5, F5, R6, fun _ D => ⟨P.aside F5 (by decide) (by decide) (fun i x h => by
    match i with
    | 0 => simp at h
    | 1 => simp at h
    | 2 => simp at h
    | 3 => simp at h
    | 4 => simp at h
    | i + 5 => simp at h) SR, R6, F6, ?_, (((Box.drew HZ).below B4).spared S hZ).row_other (by have := HZ.lt; simp at this; omega) _, below_setRow hBw (by omega) _, D⟩⟩
  exact (I.above (fun k hk => setRow_other _ _ _ _ (by rw [hsz] at hk; omega)) (by simp)).mono (by rw [hsz]; omega)
set_option maxRecDepth 100000 in
set_option maxHeartbeats 4000000 in
theorem mfget_near {a : Option Addr} {n c : Nat} {zs : List Int} {lo : Nat} {w : World} (X : Byt lo w (.slice a n c) zs) (h : ¬ 40020 < n) :
    Calls Try.prog 23 #[.slice a n c] w (GetSaid (getM zs) w) := by
  have hi : ¬ 40020 < (n : Int) := by omega
  have B1 := below_new w (.cells #[.int .i64 0, .int .i64 0, .int .i64 0, .int .i64 0, .slice none 0 0] 24)
  have R1 := Box.new w (.cells #[.int .i64 0, .int .i64 0, .int .i64 0, .int .i64 0, .slice none 0 0] 24)
  have hnr := onewr_any (X.below B1) (by omega)
  have HX := hide X
  have HB := hide B1
  have HR := hide R1
  clear X h B1 R1
  go_enter Try.func23, Try.ntmps23
  go_wp2_with fail
  refine hnr.mono ?_
  rintro e w2 ⟨r, cu, b, d, rfl, P2, hr, hcu, b2⟩
  have hh := mfrhead_any P2
  have HCU := hide (Nat.le_of_lt (Nat.lt_of_lt_of_le HR.out.lt hcu))
  have HCL := hide P2.cur.lt
  have HRZ := hide (HR.out.below b2)
  have HZC := hide (Nat.ne_of_lt (Nat.lt_of_lt_of_le HR.out.lt hcu))
  have HB2 := hide (HB.out.trans (b2.mono HB.out.size))
  have HSZ2 := hide (Nat.lt_of_lt_of_le HR.out.lt b2.size)
  clear hnr P2 hr hcu b2 HR HB
  obtain ⟨⟨v1, s1⟩, e1⟩ : ∃ q, q1 zs ⟨0, 0, 0⟩ = q := ⟨_, rfl⟩
  obtain ⟨⟨v2, s2⟩, e2⟩ : ∃ q, q2 zs ⟨0, 0, 0⟩ = q := ⟨_, rfl⟩
  obtain ⟨⟨v3, s3⟩, e3⟩ : ∃ q, q3 zs ⟨0, 0, 0⟩ = q := ⟨_, rfl⟩
  obtain ⟨⟨v4, s4⟩, e4⟩ : ∃ q, q4 zs ⟨0, 0, 0⟩ = q := ⟨_, rfl⟩
  obtain ⟨⟨v5, s5⟩, e5⟩ : ∃ q, q5 zs ⟨0, 0, 0⟩ = q := ⟨_, rfl⟩
  rw [e1, e2, e3, e4, e5] at hh
  have HE1 := hide e1
  have HE2 := hide e2
  have HE3 := hide e3
  have HE4 := hide e4
  have HE5 := hide e5
  clear e1 e2 e3 e4 e5
  dsimp only at hh
  go_wp2_with fail
  refine hh.mono ?_
  rintro e w3 ⟨rfl, P3, S3⟩
  have B4 := below_new w3 (.cells #[.int .i64 (v1 : Nat), .int .i64 (v2 : Nat), .int .i64 (v3 : Nat), .int .i64 (v4 : Nat), .int .i64 (v5 : Nat)] 56)
  have HR4 := hide (Box.new w3 (.cells #[.int .i64 (v1 : Nat), .int .i64 (v2 : Nat), .int .i64 (v3 : Nat), .int .i64 (v4 : Nat), .int .i64 (v5 : Nat)] 56))
  have HP4 := hide (P3.below B4)
  have hB3 : Below w.heap.size w w3 := HB2.out.trans (S3.to_below (Nat.le_of_lt HSZ2.out) (fun k hk => by have := HCU.out; omega))
  have HB4 := hide (hB3.trans (B4.mono hB3.size))
  have HRZ4 := hide ((HRZ.out.spared S3 (fun e => HZC.out e)).below B4)
  have HCT : Hid (w.heap.size ≤ cu ∧ cu < w3.heap.size ∧ w.heap.size ≤ w3.heap.size) := ⟨HCU.out, P3.cur.lt, hB3.size⟩
  have HK : Hid (∀ W : World, Box W w3.heap.size (.cells #[.int .i64 (v1 : Nat), .int .i64 (v2 : Nat), .int .i64 (v3 : Nat), .int .i64 (v4 : Nat), .int .i64 (v5 : Nat)] 56) → W.cell? ⟨w3.heap.size, 0, none⟩ = some (.int .i64 (v1 : Nat)) ∧ W.cell? ⟨w3.heap.size, 1, none⟩ = some (.int .i64 (v2 : Nat)) ∧ W.cell? ⟨w3.heap.size, 2, none⟩ = some (.int .i64 (v3 : Nat)) ∧ W.cell? ⟨w3.heap.size, 3, none⟩ = some (.int .i64 (v4 : Nat))) := fun W hW => by
    obtain ⟨c0, c1, c2, c3, _⟩ := five_of hW
    exact ⟨c0, c1, c2, c3⟩
  have HT : Hid (∀ W : World, PR (w.alloc (.cells #[.int .i64 0, .int .i64 0, .int .i64 0, .int .i64 0, .slice none 0 0] 24)).heap.size W r cu b n d zs s5 → Calls Try.prog 45 #[.pointer (some ⟨r, 0, none⟩)] W fun e w' => ∃ (g : Option Addr) (m d' : Nat) (L : List Int) (u : RS), e = .returned (.slice g m d') ∧ Intz W.heap.size w' (.slice g m d') L ∧ PR (w.alloc (.cells #[.int .i64 0, .int .i64 0, .int .i64 0, .int .i64 0, .slice none 0 0] 24)).heap.size w' r cu b n d zs u ∧ Spared (fun k => k = cu) W w' ∧ ((s5.er = 0 ∧ u = ⟨zs.length, 0, 0⟩ ∧ s5.at_ + 4 * L.length = zs.length ∧ L = quads L.length (zs.drop s5.at_)) ∨ (¬ u.er = 0 ∧ (s5.er = 0 → ¬ (zs.length - s5.at_) % 4 = 0)))) := fun W hW => mfrtab_any hW
  have HZC4 : Hid (¬ w.heap.size = cu) := HZC.out
  clear hh P3 S3 B4 hB3 HB2 HRZ HSZ2 HCU HCL HZC
  go_wp2_with fail
  apply leaf
  · intro HEND
    refine wp_region_held_drew (S := fun W : World => W.cell? ⟨w3.heap.size, 0, none⟩ = some (.int .i64 (v1 : Nat)) ∧ W.cell? ⟨w3.heap.size, 1, none⟩ = some (.int .i64 (v2 : Nat)) ∧ W.cell? ⟨w3.heap.size, 2, none⟩ = some (.int .i64 (v3 : Nat)) ∧ W.cell? ⟨w3.heap.size, 3, none⟩ = some (.int .i64 (v4 : Nat))) (by kernel_rfl) (HK.out _ HR4.out.drew) (fun hHeld => ?_)
    refine wpAnyH_take (i := 0) (v := ?_) rfl (by kernel_rfl) (by kernel_rfl) (by kernel_rfl) (fun _ _ _ h => h) (Or.inl ⟨by rfl, ?_⟩) (by assumption) ?_
    rotate_left
    · intro w hSw
      try dsimp only at hSw
      go_simp
      try with_reducible rfl
    simp only [Act.put, List.setIfInBounds_toArray, List.set_cons_zero, List.set_cons_succ, List.getElem_toArray, List.getElem_cons_zero]
    refine wpAnyH_take (i := 1) (v := ?_) rfl (by kernel_rfl) (by kernel_rfl) (by kernel_rfl) (fun _ _ _ h => h) (Or.inl ⟨by rfl, ?_⟩) (by assumption) ?_
    rotate_left
    · intro w hSw
      try dsimp only at hSw
      go_simp
      try with_reducible rfl
    simp only [Act.put, List.setIfInBounds_toArray, List.set_cons_zero, List.set_cons_succ, List.getElem_toArray, List.getElem_cons_zero, List.getElem_cons_succ]
    refine wpAnyH_take (i := 2) (v := ?_) rfl (by kernel_rfl) (by kernel_rfl) (by kernel_rfl) (fun _ _ _ h => h) (Or.inl ⟨by rfl, ?_⟩) (by assumption) ?_
    rotate_left
    · intro w hSw
      try dsimp only at hSw
      go_simp
      try with_reducible rfl
    simp only [Act.put, List.setIfInBounds_toArray, List.set_cons_zero, List.set_cons_succ, List.getElem_toArray, List.getElem_cons_zero, List.getElem_cons_succ]
    refine wpAnyH_take (i := 3) (v := ?_) rfl (by kernel_rfl) (by kernel_rfl) (by kernel_rfl) (fun _ _ _ h => h) (Or.inl ⟨by rfl, ?_⟩) (by assumption) ?_
    rotate_left
    · intro w hSw
      try dsimp only at hSw
      go_simp
      try with_reducible rfl
    simp only [Act.put, List.setIfInBounds_toArray, List.set_cons_zero, List.set_cons_succ, List.getElem_toArray, List.getElem_cons_zero, List.getElem_cons_succ]
    refine wpAnyH_take (i := 4) (v := ?_) rfl (by kernel_rfl) (by kernel_rfl) (by kernel_rfl) (fun _ _ _ h => h) (Or.inl ⟨by rfl, ?_⟩) (by assumption) ?_
    rotate_left
    · intro w hSw
      try dsimp only at hSw
      go_simp
      try with_reducible rfl
    simp only [Act.put, List.setIfInBounds_toArray, List.set_cons_zero, List.set_cons_succ, List.getElem_toArray, List.getElem_cons_zero, List.getElem_cons_succ]
    refine wpAnyH_take (i := 5) (v := ?_) rfl (by kernel_rfl) (by kernel_rfl) (by kernel_rfl) (fun _ _ _ h => h) (Or.inl ⟨by rfl, ?_⟩) (by assumption) ?_
    rotate_left
    · intro w hSw
      try dsimp only at hSw
      go_simp
      try with_reducible rfl
    simp only [Act.put, List.setIfInBounds_toArray, List.set_cons_zero, List.set_cons_succ, List.getElem_toArray, List.getElem_cons_zero, List.getElem_cons_succ]
    refine wpAnyH_take (i := 6) (v := ?_) rfl (by kernel_rfl) (by kernel_rfl) (by kernel_rfl) (fun _ _ _ h => h) (Or.inl ⟨by rfl, ?_⟩) (by assumption) ?_
    rotate_left
    · intro w hSw
      try dsimp only at hSw
      go_simp
      try with_reducible rfl
    simp only [Act.put, List.setIfInBounds_toArray, List.set_cons_zero, List.set_cons_succ, List.getElem_toArray, List.getElem_cons_zero, List.getElem_cons_succ]
    refine wpAnyH_take (i := 7) (v := ?_) rfl (by kernel_rfl) (by kernel_rfl) (by kernel_rfl) (fun _ _ _ h => h) (Or.inl ⟨by rfl, ?_⟩) (by assumption) ?_
    rotate_left
    · intro w hSw
      try dsimp only at hSw
      go_simp
      try with_reducible rfl
    simp only [Act.put, List.setIfInBounds_toArray, List.set_cons_zero, List.set_cons_succ, List.getElem_toArray, List.getElem_cons_zero, List.getElem_cons_succ]
    refine wpAnyH_take (i := 8) (v := ?_) rfl (by kernel_rfl) (by kernel_rfl) (by kernel_rfl) (fun _ _ _ h => h) (Or.inl ⟨by rfl, ?_⟩) (by assumption) ?_
    rotate_left
    · intro w hSw
      try dsimp only at hSw
      go_simp
      try with_reducible rfl
    simp only [Act.put, List.setIfInBounds_toArray, List.set_cons_zero, List.set_cons_succ, List.getElem_toArray, List.getElem_cons_zero, List.getElem_cons_succ]
    refine wpAnyH_ready (rs := [9, 11]) (by kernel_rfl) (by simp) ?_
    refine AllReadyH.cons rfl (fun K hK => ?_) (AllReadyH.cons rfl (fun K hK => ?_) AllReadyH.nil)
    · skip
      go_simp
      go_at_call 45
      refine (HT.out _ HP4.out.drew).mono ?_
      rintro e w5 ⟨g, m, dd, L, u, rfl, I5, P5, S5, D5⟩
      dsimp only
      have hmid := GMid.late (s := s5) HB4.out HR4.out (HCT.out) HRZ4.out HZC4.out I5 P5 S5
      clear hHeld
      refine hK.out _ _ (HK.out _ (hmid.1)) (fun hHeld => ?_)
      clear hK K
      try simp only [Act.put, List.setIfInBounds_toArray, List.set_cons_zero, List.set_cons_succ, List.getElem_toArray, List.getElem_cons_zero, List.getElem_cons_succ]
      refine wpAnyH_take (i := 10) (v := ?_) rfl (by kernel_rfl) (by kernel_rfl) (by kernel_rfl) (fun _ _ _ h => h) (Or.inl ⟨by rfl, ?_⟩) (by assumption) ?_
      rotate_left
      · intro w hSw
        try dsimp only at hSw
        go_simp
        try with_reducible rfl
      simp only [Act.put, List.setIfInBounds_toArray, List.set_cons_zero, List.set_cons_succ, List.getElem_toArray, List.getElem_cons_zero, List.getElem_cons_succ]
      refine wpAnyH_ready (rs := [11]) (by kernel_rfl) (by simp) ?_
      refine AllReadyH.cons rfl (fun K hK => ?_) AllReadyH.nil
      go_simp
      try dsimp only
      clear hHeld
      refine hK.out _ _ (HK.out _ (hmid.1.below (below_new w5 _))) (fun hHeld => ?_)
      clear hK K
      try simp only [Act.put, List.setIfInBounds_toArray, List.set_cons_zero, List.set_cons_succ, List.getElem_toArray, List.getElem_cons_zero, List.getElem_cons_succ]
      refine wpAnyH_ready (rs := [12]) (by kernel_rfl) (by simp) ?_
      refine AllReadyH.cons rfl (fun K hK => ?_) AllReadyH.nil
      go_simp
      try dsimp only
      clear hHeld
      refine hK.out _ _ (HK.out _ (hmid.1.below (below_new w5 _))) (fun hHeld => ?_)
      clear hK K
      try simp only [Act.put, List.setIfInBounds_toArray, List.set_cons_zero, List.set_cons_succ, List.getElem_toArray, List.getElem_cons_zero, List.getElem_cons_succ]
      refine wpAnyH_done (by kernel_rfl) ?_ _
      clear hHeld
      have hg := hmid.2 trivial D5
      clear hmid I5 P5 S5 D5
      revert hg
      generalize w5.alloc (.cells #[.int .i64 (v1 : Nat), .int .i64 (v2 : Nat), .int .i64 (v3 : Nat), .int .i64 (v4 : Nat), .slice g m dd] 24) = W
      generalize w5.heap.size = F
      revert g m dd L u W F
      exact HEND
    · skip
      go_simp
      try dsimp only
      clear hHeld
      refine hK.out _ _ (HK.out _ (HR4.out.drew.below (below_new _ _))) (fun hHeld => ?_)
      clear hK K
      try simp only [Act.put, List.setIfInBounds_toArray, List.set_cons_zero, List.set_cons_succ, List.getElem_toArray, List.getElem_cons_zero, List.getElem_cons_succ]
      refine wpAnyH_ready (rs := [9]) (by kernel_rfl) (by simp) ?_
      refine AllReadyH.cons rfl (fun K hK => ?_) AllReadyH.nil
      go_simp
      go_at_call 45
      refine (HT.out _ (HP4.out.drew.below (below_new _ _))).mono ?_
      rintro e w5 ⟨g, m, dd, L, u, rfl, I5, P5, S5, D5⟩
      dsimp only
      have hmid := GMid.early (s := s5) HB4.out HR4.out (HCT.out) HRZ4.out HZC4.out I5 P5 S5
      clear hHeld
      refine hK.out _ _ (HK.out _ (hmid.1)) (fun hHeld => ?_)
      clear hK K
      try simp only [Act.put, List.setIfInBounds_toArray, List.set_cons_zero, List.set_cons_succ, List.getElem_toArray, List.getElem_cons_zero, List.getElem_cons_succ]
      refine wpAnyH_take (i := 10) (v := ?_) rfl (by kernel_rfl) (by kernel_rfl) (by kernel_rfl) (fun _ _ _ h => h) (Or.inl ⟨by rfl, ?_⟩) (by assumption) ?_
      rotate_left
      · intro w hSw
        try dsimp only at hSw
        go_simp
        try with_reducible rfl
      simp only [Act.put, List.setIfInBounds_toArray, List.set_cons_zero, List.set_cons_succ, List.getElem_toArray, List.getElem_cons_zero, List.getElem_cons_succ]
      refine wpAnyH_ready (rs := [12]) (by kernel_rfl) (by simp) ?_
      refine AllReadyH.cons rfl (fun K hK => ?_) AllReadyH.nil
      refine wp_store_row _ _ _ rfl (w3.heap.size + 1) #[.int .i64 (v1 : Nat), .int .i64 (v2 : Nat), .int .i64 (v3 : Nat), .int .i64 (v4 : Nat), .slice g m dd] rfl rfl 24 _ hmid.2.1.what (by kernel_rfl) rfl (by kernel_rfl) ?_
      clear hHeld
      refine hK.out _ _ (HK.out _ hmid.2.2.1) (fun hHeld => ?_)
      clear hK K
      try simp only [Act.put]
      refine wpAnyH_done (by kernel_rfl) ?_ _
      clear hHeld
      have hg := hmid.2.2.2 trivial D5
      clear hmid I5 P5 S5 D5
      revert hg
      generalize w5.setRow (w3.heap.size + 1) #[.int .i64 (v1 : Nat), .int .i64 (v2 : Nat), .int .i64 (v3 : Nat), .int .i64 (v4 : Nat), .slice g m dd] = W
      generalize w3.heap.size + 1 = F
      revert g m dd L u W F
      exact HEND
  · intro g m dd L u W F hg
    have hRZ := HRZ4.out
    have HGM := hide hg
    have HEnd : Hid (∀ V : World, Below W.heap.size W V → Calls Try.prog 46 #[.pointer (some ⟨r, 0, none⟩)] V fun e w' => e = .returned (.agg #[.int .i64 (endR zs u).1, .int .i64 (endR zs u).2]) ∧ Below V.heap.size V w') := fun V hV => oend_any (hg.rd.below hV)
    have HHd : Hid (∀ V : World, Calls Try.prog 31 #[.agg #[.int .i64 (v1 : Nat), .int .i64 (v2 : Nat), .int .i64 (v3 : Nat), .int .i64 (v4 : Nat), .slice g m dd]] V fun e w' => e = .returned (.agg #[.int .i64 (v1 : Nat), .int .i64 (v2 : Nat), .int .i64 (v3 : Nat), .int .i64 (v4 : Nat), .int .i64 (m : Nat)]) ∧ Below V.heap.size V w') := fun V => mfhead_any v1 v2 v3 v4 g m dd V
    have HChk : Hid (∀ V : World, Below W.heap.size W V → Calls Try.prog 16 #[.agg #[.int .i64 (v1 : Nat), .int .i64 (v2 : Nat), .int .i64 (v3 : Nat), .int .i64 (v4 : Nat), .slice g m dd]] V fun e w' => e = .returned (.int .i64 (checkM ⟨v1, v2, v3, v4, L⟩)) ∧ Below V.heap.size V w') := fun V hV => mfcheck_any v1 v2 v3 v4 g m dd L V (hg.ts.below hV)
    have HKG : Hid (∀ V : World, Below W.heap.size W V → (fun V : World => V.cell? ⟨F, 0, none⟩ = some (.int .i64 (v1 : Nat)) ∧ V.cell? ⟨F, 1, none⟩ = some (.int .i64 (v2 : Nat)) ∧ V.cell? ⟨F, 2, none⟩ = some (.int .i64 (v3 : Nat)) ∧ V.cell? ⟨F, 3, none⟩ = some (.int .i64 (v4 : Nat)) ∧ V.cell? ⟨F, 4, none⟩ = some (.slice g m dd) ∧ V.cell? ⟨w3.heap.size, 0, none⟩ = some (.int .i64 (v1 : Nat)) ∧ V.cell? ⟨w3.heap.size, 1, none⟩ = some (.int .i64 (v2 : Nat)) ∧ V.cell? ⟨w3.heap.size, 2, none⟩ = some (.int .i64 (v3 : Nat)) ∧ V.cell? ⟨w3.heap.size, 3, none⟩ = some (.int .i64 (v4 : Nat)) ∧ V.cell? ⟨w3.heap.size, 4, none⟩ = some (.int .i64 (v5 : Nat))) V) := fun V hV => by
      obtain ⟨a0, a1, a2, a3, a4⟩ := five_of (hg.got.below hV)
      obtain ⟨b0, b1, b2, b3, b4⟩ := five_of (hg.told.below hV)
      exact ⟨a0, a1, a2, a3, a4, b0, b1, b2, b3, b4⟩
    have hr := (Below.refl W.heap.size W).drew
    have hm := hg.ts.len.1
    have hres : Hid (∀ V : World, Below W.heap.size W V → Box V w.heap.size (.cells #[.int .i64 0, .int .i64 0, .int .i64 0, .int .i64 0, .slice none 0 0] 24) ∧ Below w.heap.size w V) := fun V hV => ⟨hg.zero.below hV, hg.below.trans (hV.mono (by have := hg.below.size; omega))⟩
    clear hg
    by_cases hu : u.er = 0
    · obtain ⟨hhd, h20, hL, hv1, hv2, hv3, hv4, hv5⟩ := got_whole HX.out.words HE1.out HE2.out HE3.out HE4.out HE5.out HGM.out.said hu
      have hq : endR zs u = (0, 0) := by rw [hhd]; exact if_neg (fun h => Nat.lt_irrefl _ h.2)
      rw [hq] at HEnd
      dsimp only at HEnd
      have hfd := run_field0 0 0
      clear hq
      by_cases hc : m = v5
      · have hce : ((m : Int) == (v5 : Int)) = true := by rw [hc]; exact beq_self_eq_true _
        have hg1 := (get_whole h20 hL hv1 hv2 hv3 hv4 hv5).1 (by omega)
        clear hu hhd h20 hL hv1 hv2 hv3 hv4 hv5 hm hc
        by_cases hM : MayM ⟨v1, v2, v3, v4, L⟩
        · rw [if_pos hM] at hg1
          rw [checkM_yes hM] at HChk
          have HG1 := hide hg1
          clear hg1 hM
          go_wp2_with fail
          have t0 : Hid True := trivial
          go_region_held3 (fun V : World => V.cell? ⟨F, 0, none⟩ = some (.int .i64 (v1 : Nat)) ∧ V.cell? ⟨F, 1, none⟩ = some (.int .i64 (v2 : Nat)) ∧ V.cell? ⟨F, 2, none⟩ = some (.int .i64 (v3 : Nat)) ∧ V.cell? ⟨F, 3, none⟩ = some (.int .i64 (v4 : Nat)) ∧ V.cell? ⟨F, 4, none⟩ = some (.slice g m dd) ∧ V.cell? ⟨w3.heap.size, 0, none⟩ = some (.int .i64 (v1 : Nat)) ∧ V.cell? ⟨w3.heap.size, 1, none⟩ = some (.int .i64 (v2 : Nat)) ∧ V.cell? ⟨w3.heap.size, 2, none⟩ = some (.int .i64 (v3 : Nat)) ∧ V.cell? ⟨w3.heap.size, 3, none⟩ = some (.int .i64 (v4 : Nat)) ∧ V.cell? ⟨w3.heap.size, 4, none⟩ = some (.int .i64 (v5 : Nat))) (exact HKG.out _ hr)
            (first
            | (clear t0
               go_at_call 46
               refine (HEnd.out _ hr).mono ?_
               rintro e y0 ⟨rfl, hb⟩
               replace hr := hr.trans (hb.mono hr.size)
               clear hb
               have t1 : Hid True := trivial)
            | (clear t1
               go_at_call 31
               refine (HHd.out _).mono ?_
               rintro e y1 ⟨rfl, hb⟩
               replace hr := hr.trans (hb.mono hr.size)
               clear hb
               have t2 : Hid True := trivial)
            | (clear t2
               go_at_call 16
               refine (HChk.out _ hr).mono ?_
               rintro e y2 ⟨rfl, hb⟩
               replace hr := hr.trans (hb.mono hr.size)
               clear hb
               have t3 : Hid True := trivial))
          all_goals
            have HRB := hide (hres.out _ hr)
            have HTS := hide (HGM.out.ts.below hr)
            obtain ⟨a0, a1, a2, a3, a4, _⟩ := HKG.out _ hr
            clear hr HEnd HHd HChk HKG hfd hce t3
            go_wp2_with (refine wpList_store_row rfl 24 (.tmp 2) (.tmp 42) rfl w.heap.size #[.int .i64 (v1 : Nat), .int .i64 (v2 : Nat), .int .i64 (v3 : Nat), .int .i64 (v4 : Nat), .slice g m dd] rfl rfl 24 _ HRB.out.1.what (by kernel_rfl) rfl (by kernel_rfl) ?_)
            have HV3 := HRB.out.1.setRow #[.int .i64 (v1 : Nat), .int .i64 (v2 : Nat), .int .i64 (v3 : Nat), .int .i64 (v4 : Nat), .slice g m dd]
            obtain ⟨g0, g1, g2, g3, g4⟩ := five_of HV3
            refine bodyPost_ret (v := .tuple #[.agg #[.int .i64 (v1 : Nat), .int .i64 (v2 : Nat), .int .i64 (v3 : Nat), .int .i64 (v4 : Nat), .slice g m dd], .int .i64 0]) (by simp [results, Try.f23, go_sem, g0, g1, g2, g3, g4]) rfl ?_
            rw [HG1.out]
            exact ⟨g, m, dd, rfl, (HTS.out.above (fun k hk => setRow_other _ _ _ _ (by omega)) (by simp)).mono (Nat.le_succ _), below_setRow HRB.out.2 (Nat.le_refl _) _⟩
        · rw [if_neg hM] at hg1
          rw [checkM_no hM] at HChk
          have HZZ := hide hg1
          clear hg1 hM
          go_wp2_with fail
          have t0 : Hid True := trivial
          go_region_held3 (fun V : World => V.cell? ⟨F, 0, none⟩ = some (.int .i64 (v1 : Nat)) ∧ V.cell? ⟨F, 1, none⟩ = some (.int .i64 (v2 : Nat)) ∧ V.cell? ⟨F, 2, none⟩ = some (.int .i64 (v3 : Nat)) ∧ V.cell? ⟨F, 3, none⟩ = some (.int .i64 (v4 : Nat)) ∧ V.cell? ⟨F, 4, none⟩ = some (.slice g m dd) ∧ V.cell? ⟨w3.heap.size, 0, none⟩ = some (.int .i64 (v1 : Nat)) ∧ V.cell? ⟨w3.heap.size, 1, none⟩ = some (.int .i64 (v2 : Nat)) ∧ V.cell? ⟨w3.heap.size, 2, none⟩ = some (.int .i64 (v3 : Nat)) ∧ V.cell? ⟨w3.heap.size, 3, none⟩ = some (.int .i64 (v4 : Nat)) ∧ V.cell? ⟨w3.heap.size, 4, none⟩ = some (.int .i64 (v5 : Nat))) (exact HKG.out _ hr)
            (first
            | (clear t0
               go_at_call 46
               refine (HEnd.out _ hr).mono ?_
               rintro e y0 ⟨rfl, hb⟩
               replace hr := hr.trans (hb.mono hr.size)
               clear hb
               have t1 : Hid True := trivial)
            | (clear t1
               go_at_call 31
               refine (HHd.out _).mono ?_
               rintro e y1 ⟨rfl, hb⟩
               replace hr := hr.trans (hb.mono hr.size)
               clear hb
               have t2 : Hid True := trivial)
            | (clear t2
               go_at_call 16
               refine (HChk.out _ hr).mono ?_
               rintro e y2 ⟨rfl, hb⟩
               replace hr := hr.trans (hb.mono hr.size)
               clear hb
               have t3 : Hid True := trivial))
          all_goals
            have HRB := hide (hres.out _ hr)
            clear hr HEnd HHd HChk HKG hfd hce t3
            go_wp2_with (refine wpList_store_row rfl 24 (.tmp 2) (.tmp 41) rfl w.heap.size #[.int .i64 0, .int .i64 0, .int .i64 0, .int .i64 0, .slice none 0 0] rfl rfl 24 _ HRB.out.1.what (by kernel_rfl) rfl (by kernel_rfl) ?_)
            have HV3 := HRB.out.1.setRow #[.int .i64 0, .int .i64 0, .int .i64 0, .int .i64 0, .slice none 0 0]
            obtain ⟨g0, g1, g2, g3, g4⟩ := five_of HV3
            refine bodyPost_ret (v := .tuple #[.agg #[.int .i64 0, .int .i64 0, .int .i64 0, .int .i64 0, .slice none 0 0], .int .i64 6]) (by simp [results, Try.f23, go_sem, g0, g1, g2, g3, g4]) rfl ?_
            rw [HZZ.out]
            exact zero_said rfl (below_setRow HRB.out.2 (Nat.le_refl _) _)
      · have hz : getM zs = (MV.zero, 6) := (get_whole h20 hL hv1 hv2 hv3 hv4 hv5).2 (fun e => hc (by omega))
        have HZZ := hide hz
        have hne : ((m : Int) == (v5 : Int)) = false := by simp; omega
        clear hz hc hu hhd h20 hL hv1 hv2 hv3 hv4 hv5 hm
        go_wp2_with fail
        refine wp_region_held_drew (S := fun V : World => V.cell? ⟨F, 0, none⟩ = some (.int .i64 (v1 : Nat)) ∧ V.cell? ⟨F, 1, none⟩ = some (.int .i64 (v2 : Nat)) ∧ V.cell? ⟨F, 2, none⟩ = some (.int .i64 (v3 : Nat)) ∧ V.cell? ⟨F, 3, none⟩ = some (.int .i64 (v4 : Nat)) ∧ V.cell? ⟨F, 4, none⟩ = some (.slice g m dd) ∧ V.cell? ⟨w3.heap.size, 0, none⟩ = some (.int .i64 (v1 : Nat)) ∧ V.cell? ⟨w3.heap.size, 1, none⟩ = some (.int .i64 (v2 : Nat)) ∧ V.cell? ⟨w3.heap.size, 2, none⟩ = some (.int .i64 (v3 : Nat)) ∧ V.cell? ⟨w3.heap.size, 3, none⟩ = some (.int .i64 (v4 : Nat)) ∧ V.cell? ⟨w3.heap.size, 4, none⟩ = some (.int .i64 (v5 : Nat))) (by kernel_rfl) (HKG.out _ hr) (fun hHeld => ?_)
        refine wpAnyH_take (i := 0) (v := ?_) rfl (by kernel_rfl) (by kernel_rfl) (by kernel_rfl) (fun _ _ _ h => h) (Or.inl ⟨by rfl, ?_⟩) (by assumption) ?_
        rotate_left
        · intro w hSw
          try dsimp only at hSw
          go_simp
          try with_reducible rfl
        simp only [Act.put, List.setIfInBounds_toArray, List.set_cons_zero, List.set_cons_succ, List.getElem_toArray, List.getElem_cons_zero]
        refine wpAnyH_ready (rs := [1]) (by kernel_rfl) (by simp) ?_
        refine AllReadyH.cons rfl (fun K hK => ?_) AllReadyH.nil
        go_simp
        go_at_call 46
        refine (HEnd.out _ hr).mono ?_
        rintro e v0 ⟨rfl, hb⟩
        replace hr := hr.trans (hb.mono hr.size)
        clear hb
        dsimp only
        clear hHeld
        refine hK.out _ _ (HKG.out _ hr) (fun hHeld => ?_)
        clear hK K
        try simp only [Act.put, List.setIfInBounds_toArray, List.set_cons_zero, List.set_cons_succ, List.getElem_toArray, List.getElem_cons_zero, List.getElem_cons_succ]
        refine wpAnyH_take (i := 2) (v := ?_) rfl (by kernel_rfl) (by kernel_rfl) (by kernel_rfl) (fun _ _ _ h => h) (Or.inl ⟨by rfl, ?_⟩) (by assumption) ?_
        rotate_left
        · intro w hSw
          try dsimp only at hSw
          go_simp
          try with_reducible rfl
        simp only [Act.put, List.setIfInBounds_toArray, List.set_cons_zero, List.set_cons_succ, List.getElem_toArray, List.getElem_cons_zero, List.getElem_cons_succ]
        refine wpAnyH_take (i := 3) (v := ?_) rfl (by kernel_rfl) (by kernel_rfl) (by kernel_rfl) (fun _ _ _ h => h) (Or.inl ⟨by rfl, ?_⟩) (by assumption) ?_
        rotate_left
        · intro w hSw
          try dsimp only at hSw
          go_simp
          try with_reducible rfl
        simp only [Act.put, List.setIfInBounds_toArray, List.set_cons_zero, List.set_cons_succ, List.getElem_toArray, List.getElem_cons_zero, List.getElem_cons_succ]
        refine wpAnyH_take (i := 4) (v := ?_) rfl (by kernel_rfl) (by kernel_rfl) (by kernel_rfl) (fun _ _ _ h => h) (Or.inl ⟨by rfl, ?_⟩) (by assumption) ?_
        rotate_left
        · intro w hSw
          try dsimp only at hSw
          go_simp
          try with_reducible rfl
        simp only [Act.put, List.setIfInBounds_toArray, List.set_cons_zero, List.set_cons_succ, List.getElem_toArray, List.getElem_cons_zero, List.getElem_cons_succ]
        refine wpAnyH_take (i := 5) (v := ?_) rfl (by kernel_rfl) (by kernel_rfl) (by kernel_rfl) (fun _ _ _ h => h) (Or.inl ⟨by rfl, ?_⟩) (by assumption) ?_
        rotate_left
        · intro w hSw
          try dsimp only at hSw
          go_simp
          try with_reducible rfl
        simp only [Act.put, List.setIfInBounds_toArray, List.set_cons_zero, List.set_cons_succ, List.getElem_toArray, List.getElem_cons_zero, List.getElem_cons_succ]
        refine wpAnyH_take (i := 7) (v := ?_) rfl (by kernel_rfl) (by kernel_rfl) (by kernel_rfl) (fun _ _ _ h => h) (Or.inl ⟨by rfl, ?_⟩) (by assumption) ?_
        rotate_left
        · intro w hSw
          try dsimp only at hSw
          go_simp
          try with_reducible rfl
        simp only [Act.put, List.setIfInBounds_toArray, List.set_cons_zero, List.set_cons_succ, List.getElem_toArray, List.getElem_cons_zero, List.getElem_cons_succ]
        refine wpAnyH_ready (rs := [6]) (by kernel_rfl) (by simp) ?_
        refine AllReadyH.cons rfl (fun K hK => ?_) AllReadyH.nil
        go_simp
        go_at_call 31
        refine (HHd.out _).mono ?_
        rintro e v0 ⟨rfl, hb⟩
        replace hr := hr.trans (hb.mono hr.size)
        clear hb
        dsimp only
        clear hHeld
        refine hK.out _ _ (HKG.out _ hr) (fun hHeld => ?_)
        clear hK K
        try simp only [Act.put, List.setIfInBounds_toArray, List.set_cons_zero, List.set_cons_succ, List.getElem_toArray, List.getElem_cons_zero, List.getElem_cons_succ]
        refine wpAnyH_take (i := 8) (v := ?_) rfl (by kernel_rfl) (by kernel_rfl) (by kernel_rfl) (fun _ _ _ h => h) (Or.inl ⟨by rfl, ?_⟩) (by assumption) ?_
        rotate_left
        · intro w hSw
          try dsimp only at hSw
          go_simp
          try with_reducible rfl
        simp only [Act.put, List.setIfInBounds_toArray, List.set_cons_zero, List.set_cons_succ, List.getElem_toArray, List.getElem_cons_zero, List.getElem_cons_succ]
        refine wpAnyH_take (i := 9) (v := ?_) rfl (by kernel_rfl) (by kernel_rfl) (by kernel_rfl) (fun _ _ _ h => h) (Or.inl ⟨by rfl, ?_⟩) (by assumption) ?_
        rotate_left
        · intro w hSw
          try dsimp only at hSw
          go_simp
          try with_reducible rfl
        simp only [Act.put, List.setIfInBounds_toArray, List.set_cons_zero, List.set_cons_succ, List.getElem_toArray, List.getElem_cons_zero, List.getElem_cons_succ]
        refine wpAnyH_take (i := 10) (v := ?_) rfl (by kernel_rfl) (by kernel_rfl) (by kernel_rfl) (fun _ _ _ h => h) (Or.inl ⟨by rfl, ?_⟩) (by assumption) ?_
        rotate_left
        · intro w hSw
          try dsimp only at hSw
          go_simp
          try with_reducible rfl
        simp only [Act.put, List.setIfInBounds_toArray, List.set_cons_zero, List.set_cons_succ, List.getElem_toArray, List.getElem_cons_zero, List.getElem_cons_succ]
        refine wpAnyH_take (i := 11) (v := undef) rfl (by kernel_rfl) (by kernel_rfl) (by kernel_rfl) (fun _ _ _ h => h) (Or.inr ⟨by rfl, rfl⟩) (by assumption) ?_
        simp only [Act.put, List.setIfInBounds_toArray, List.set_cons_zero, List.set_cons_succ, List.getElem_toArray, List.getElem_cons_zero, List.getElem_cons_succ]
        refine wpAnyH_ready (rs := [12]) (by kernel_rfl) (by simp) ?_
        refine AllReadyH.cons rfl (fun K hK => ?_) AllReadyH.nil
        go_simp
        clear hHeld
        refine hK.out _ _ (HKG.out _ hr) (fun hHeld => ?_)
        clear hK K
        try simp only [Act.put, List.setIfInBounds_toArray, List.set_cons_zero, List.set_cons_succ, List.getElem_toArray, List.getElem_cons_zero, List.getElem_cons_succ]
        refine wpAnyH_take (i := 13) (v := undef) rfl (by kernel_rfl) (by kernel_rfl) (by kernel_rfl) (fun _ _ _ h => h) (Or.inr ⟨by rfl, rfl⟩) (by assumption) ?_
        simp only [Act.put, List.setIfInBounds_toArray, List.set_cons_zero, List.set_cons_succ, List.getElem_toArray, List.getElem_cons_zero, List.getElem_cons_succ]
        refine wpAnyH_take (i := 14) (v := ?_) rfl (by kernel_rfl) (by kernel_rfl) (by kernel_rfl) (fun _ _ _ h => h) (Or.inl ⟨by rfl, ?_⟩) (by assumption) ?_
        rotate_left
        · intro w hSw
          try dsimp only at hSw
          go_simp
          try with_reducible rfl
        simp only [Act.put, List.setIfInBounds_toArray, List.set_cons_zero, List.set_cons_succ, List.getElem_toArray, List.getElem_cons_zero, List.getElem_cons_succ]
        refine wpAnyH_done (by kernel_rfl) ?_ _
        clear hHeld
        have HRB := hide (hres.out _ hr)
        clear hr HEnd HHd HChk HKG hfd hne
        go_wp2_with (refine wpList_store_row rfl 24 (.tmp 2) (.tmp 41) rfl w.heap.size #[.int .i64 0, .int .i64 0, .int .i64 0, .int .i64 0, .slice none 0 0] rfl rfl 24 _ HRB.out.1.what (by kernel_rfl) rfl (by kernel_rfl) ?_)
        have HV3 := HRB.out.1.setRow #[.int .i64 0, .int .i64 0, .int .i64 0, .int .i64 0, .slice none 0 0]
        obtain ⟨g0, g1, g2, g3, g4⟩ := five_of HV3
        refine bodyPost_ret (v := .tuple #[.agg #[.int .i64 0, .int .i64 0, .int .i64 0, .int .i64 0, .slice none 0 0], .int .i64 6]) (by simp [results, Try.f23, go_sem, g0, g1, g2, g3, g4]) rfl ?_
        rw [HZZ.out]
        exact zero_said rfl (below_setRow HRB.out.2 (Nat.le_refl _) _)
    · have hq : endR zs u = (u.er, u.fa) := if_neg (fun h => hu h.1)
      have hz : getM zs = (MV.zero, 6) := getM_fault HX.out.words HE5.out (HGM.out.said) hu
      rw [hq] at HEnd
      have HZZ := hide hz
      dsimp only at HEnd
      have hnb : (u.er == 0) = false := beq_eq_false_iff_ne.2 hu
      have hnb2 : (u.er != 0) = true := by simpa using hu
      have hfd := run_field0 u.er u.fa
      clear hq hz hu hm
      go_wp2_with fail
      refine wp_region_held_drew (S := fun V : World => V.cell? ⟨F, 0, none⟩ = some (.int .i64 (v1 : Nat)) ∧ V.cell? ⟨F, 1, none⟩ = some (.int .i64 (v2 : Nat)) ∧ V.cell? ⟨F, 2, none⟩ = some (.int .i64 (v3 : Nat)) ∧ V.cell? ⟨F, 3, none⟩ = some (.int .i64 (v4 : Nat)) ∧ V.cell? ⟨F, 4, none⟩ = some (.slice g m dd) ∧ V.cell? ⟨w3.heap.size, 0, none⟩ = some (.int .i64 (v1 : Nat)) ∧ V.cell? ⟨w3.heap.size, 1, none⟩ = some (.int .i64 (v2 : Nat)) ∧ V.cell? ⟨w3.heap.size, 2, none⟩ = some (.int .i64 (v3 : Nat)) ∧ V.cell? ⟨w3.heap.size, 3, none⟩ = some (.int .i64 (v4 : Nat)) ∧ V.cell? ⟨w3.heap.size, 4, none⟩ = some (.int .i64 (v5 : Nat))) (by kernel_rfl) (HKG.out _ hr) (fun hHeld => ?_)
      refine wpAnyH_take (i := 0) (v := ?_) rfl (by kernel_rfl) (by kernel_rfl) (by kernel_rfl) (fun _ _ _ h => h) (Or.inl ⟨by rfl, ?_⟩) (by assumption) ?_
      rotate_left
      · intro w hSw
        try dsimp only at hSw
        go_simp
        try with_reducible rfl
      simp only [Act.put, List.setIfInBounds_toArray, List.set_cons_zero, List.set_cons_succ, List.getElem_toArray, List.getElem_cons_zero]
      refine wpAnyH_ready (rs := [1]) (by kernel_rfl) (by simp) ?_
      refine AllReadyH.cons rfl (fun K hK => ?_) AllReadyH.nil
      go_simp
      go_at_call 46
      refine (HEnd.out _ hr).mono ?_
      rintro e v0 ⟨rfl, hb⟩
      replace hr := hr.trans (hb.mono hr.size)
      clear hb
      dsimp only
      clear hHeld
      refine hK.out _ _ (HKG.out _ hr) (fun hHeld => ?_)
      clear hK K
      try simp only [Act.put, List.setIfInBounds_toArray, List.set_cons_zero, List.set_cons_succ, List.getElem_toArray, List.getElem_cons_zero, List.getElem_cons_succ]
      refine wpAnyH_take (i := 2) (v := ?_) rfl (by kernel_rfl) (by kernel_rfl) (by kernel_rfl) (fun _ _ _ h => h) (Or.inl ⟨by rfl, ?_⟩) (by assumption) ?_
      rotate_left
      · intro w hSw
        try dsimp only at hSw
        go_simp
        try with_reducible rfl
      simp only [Act.put, List.setIfInBounds_toArray, List.set_cons_zero, List.set_cons_succ, List.getElem_toArray, List.getElem_cons_zero, List.getElem_cons_succ]
      refine wpAnyH_take (i := 3) (v := ?_) rfl (by kernel_rfl) (by kernel_rfl) (by kernel_rfl) (fun _ _ _ h => h) (Or.inl ⟨by rfl, ?_⟩) (by assumption) ?_
      rotate_left
      · intro w hSw
        try dsimp only at hSw
        go_simp
        try with_reducible rfl
      simp only [Act.put, List.setIfInBounds_toArray, List.set_cons_zero, List.set_cons_succ, List.getElem_toArray, List.getElem_cons_zero, List.getElem_cons_succ]
      refine wpAnyH_take (i := 4) (v := ?_) rfl (by kernel_rfl) (by kernel_rfl) (by kernel_rfl) (fun _ _ _ h => h) (Or.inl ⟨by rfl, ?_⟩) (by assumption) ?_
      rotate_left
      · intro w hSw
        try dsimp only at hSw
        go_simp
        try with_reducible rfl
      simp only [Act.put, List.setIfInBounds_toArray, List.set_cons_zero, List.set_cons_succ, List.getElem_toArray, List.getElem_cons_zero, List.getElem_cons_succ]
      refine wpAnyH_take (i := 5) (v := undef) rfl (by kernel_rfl) (by kernel_rfl) (by kernel_rfl) (fun _ _ _ h => h) (Or.inr ⟨by rfl, rfl⟩) (by assumption) ?_
      simp only [Act.put, List.setIfInBounds_toArray, List.set_cons_zero, List.set_cons_succ, List.getElem_toArray, List.getElem_cons_zero, List.getElem_cons_succ]
      refine wpAnyH_take (i := 7) (v := undef) rfl (by kernel_rfl) (by kernel_rfl) (by kernel_rfl) (fun _ _ _ h => h) (Or.inr ⟨by rfl, rfl⟩) (by assumption) ?_
      simp only [Act.put, List.setIfInBounds_toArray, List.set_cons_zero, List.set_cons_succ, List.getElem_toArray, List.getElem_cons_zero, List.getElem_cons_succ]
      refine wpAnyH_ready (rs := [6]) (by kernel_rfl) (by simp) ?_
      refine AllReadyH.cons rfl (fun K hK => ?_) AllReadyH.nil
      go_simp
      clear hHeld
      refine hK.out _ _ (HKG.out _ hr) (fun hHeld => ?_)
      clear hK K
      try simp only [Act.put, List.setIfInBounds_toArray, List.set_cons_zero, List.set_cons_succ, List.getElem_toArray, List.getElem_cons_zero, List.getElem_cons_succ]
      refine wpAnyH_take (i := 8) (v := undef) rfl (by kernel_rfl) (by kernel_rfl) (by kernel_rfl) (fun _ _ _ h => h) (Or.inr ⟨by rfl, rfl⟩) (by assumption) ?_
      simp only [Act.put, List.setIfInBounds_toArray, List.set_cons_zero, List.set_cons_succ, List.getElem_toArray, List.getElem_cons_zero, List.getElem_cons_succ]
      refine wpAnyH_take (i := 9) (v := ?_) rfl (by kernel_rfl) (by kernel_rfl) (by kernel_rfl) (fun _ _ _ h => h) (Or.inl ⟨by rfl, ?_⟩) (by assumption) ?_
      rotate_left
      · intro w hSw
        try dsimp only at hSw
        go_simp
        try with_reducible rfl
      simp only [Act.put, List.setIfInBounds_toArray, List.set_cons_zero, List.set_cons_succ, List.getElem_toArray, List.getElem_cons_zero, List.getElem_cons_succ]
      refine wpAnyH_take (i := 10) (v := ?_) rfl (by kernel_rfl) (by kernel_rfl) (by kernel_rfl) (fun _ _ _ h => h) (Or.inl ⟨by rfl, ?_⟩) (by assumption) ?_
      rotate_left
      · intro w hSw
        try dsimp only at hSw
        go_simp
        try with_reducible rfl
      simp only [Act.put, List.setIfInBounds_toArray, List.set_cons_zero, List.set_cons_succ, List.getElem_toArray, List.getElem_cons_zero, List.getElem_cons_succ]
      refine wpAnyH_take (i := 11) (v := undef) rfl (by kernel_rfl) (by kernel_rfl) (by kernel_rfl) (fun _ _ _ h => h) (Or.inr ⟨by rfl, rfl⟩) (by assumption) ?_
      simp only [Act.put, List.setIfInBounds_toArray, List.set_cons_zero, List.set_cons_succ, List.getElem_toArray, List.getElem_cons_zero, List.getElem_cons_succ]
      refine wpAnyH_ready (rs := [12]) (by kernel_rfl) (by simp) ?_
      refine AllReadyH.cons rfl (fun K hK => ?_) AllReadyH.nil
      go_simp
      clear hHeld
      refine hK.out _ _ (HKG.out _ hr) (fun hHeld => ?_)
      clear hK K
      try simp only [Act.put, List.setIfInBounds_toArray, List.set_cons_zero, List.set_cons_succ, List.getElem_toArray, List.getElem_cons_zero, List.getElem_cons_succ]
      refine wpAnyH_take (i := 13) (v := undef) rfl (by kernel_rfl) (by kernel_rfl) (by kernel_rfl) (fun _ _ _ h => h) (Or.inr ⟨by rfl, rfl⟩) (by assumption) ?_
      simp only [Act.put, List.setIfInBounds_toArray, List.set_cons_zero, List.set_cons_succ, List.getElem_toArray, List.getElem_cons_zero, List.getElem_cons_succ]
      refine wpAnyH_take (i := 14) (v := ?_) rfl (by kernel_rfl) (by kernel_rfl) (by kernel_rfl) (fun _ _ _ h => h) (Or.inl ⟨by rfl, ?_⟩) (by assumption) ?_
      rotate_left
      · intro w hSw
        try dsimp only at hSw
        go_simp
        try with_reducible rfl
      simp only [Act.put, List.setIfInBounds_toArray, List.set_cons_zero, List.set_cons_succ, List.getElem_toArray, List.getElem_cons_zero, List.getElem_cons_succ]
      refine wpAnyH_done (by kernel_rfl) ?_ _
      clear hHeld
      have HRB := hide (hres.out _ hr)
      clear hr HEnd HHd HChk HKG hfd
      go_wp2_with (refine wpList_store_row rfl 24 (.tmp 2) (.tmp 41) rfl w.heap.size #[.int .i64 0, .int .i64 0, .int .i64 0, .int .i64 0, .slice none 0 0] rfl rfl 24 _ HRB.out.1.what (by kernel_rfl) rfl (by kernel_rfl) ?_)
      have HV3 := HRB.out.1.setRow #[.int .i64 0, .int .i64 0, .int .i64 0, .int .i64 0, .slice none 0 0]
      obtain ⟨g0, g1, g2, g3, g4⟩ := five_of HV3
      refine bodyPost_ret (v := .tuple #[.agg #[.int .i64 0, .int .i64 0, .int .i64 0, .int .i64 0, .slice none 0 0], .int .i64 6]) (by simp [results, Try.f23, go_sem, g0, g1, g2, g3, g4]) rfl ?_
      rw [HZZ.out]
      exact zero_said rfl (below_setRow HRB.out.2 (Nat.le_refl _) _)
theorem mfget_any {a : Option Addr} {n c : Nat} {zs : List Int} {lo : Nat} {w : World} (X : Byt lo w (.slice a n c) zs) :
    Calls Try.prog 23 #[.slice a n c] w (GetSaid (getM zs) w) := by
  by_cases h : 40020 < n
  · exact mfget_far X h
  · exact mfget_near X h
def putM (m : MV) : List Int := if MayM m then bodyM m else []
theorem putM_yes {m : MV} (h : MayM m) : putM m = bodyM m := if_pos h
theorem putM_no {m : MV} (h : ¬ MayM m) : putM m = [] := if_neg h
set_option maxRecDepth 100000 in
set_option maxHeartbeats 2000000 in
theorem mfput_yes (z y k s : Int) (a : Option Addr) (n c : Nat) (ts : List Int) {lo : Nat} (w : World) (X : Intz lo w (.slice a n c) ts) (hM : MayM ⟨z, y, k, s, ts⟩) (hs : s ≤ 9223372036854775807) :
    Calls Try.prog 11 #[.agg #[.int .i64 z, .int .i64 y, .int .i64 k, .int .i64 s, .slice a n c]] w (BytPost (bodyM ⟨z, y, k, s, ts⟩) 0 w) := by
  have hn := X.len.1
  have B1 := below_new w (.cells #[.int .i64 z, .int .i64 y, .int .i64 k, .int .i64 s, .slice a n c] 24)
  have hc := mfcheck_any z y k s a n c ts _ (X.below B1)
  have HR := hide (Box.new w (.cells #[.int .i64 z, .int .i64 y, .int .i64 k, .int .i64 s, .slice a n c] 24))
  have HB := hide B1
  rw [checkM_yes hM] at hc
  have hn4 : n ≤ 10000 := by have := hM.2.2.2.2.1; dsimp only at this; omega
  have HX := hide X
  have HF := hide (numM_fits hM hs)
  have HWT := hide (wts_each hM.2.2.2.2.2.1)
  have HN := hide hn
  have HN4 := hide hn4
  clear X B1 hM hs hn
  go_enter Try.func11, Try.ntmps11
  go_wp2_with fail
  refine hc.mono ?_
  rintro e w1 ⟨rfl, b1⟩
  have HB1 := hide (HB.out.trans (b1.mono HB.out.size))
  have HR1 := hide (HR.out.below b1)
  obtain ⟨_, _, _, _, c4⟩ := five_of (HR.out.below b1)
  have hnw := onew_yes (20 + n * 4) (by omega) w1
  rw [show ((20 + n * 4 : Nat) : Int) = 20 + (n : Int) * 4 by omega] at hnw
  clear hc b1 HB HR
  go_wp2_with fail
  refine hnw.mono ?_
  rintro e w2 ⟨p, cu, rfl, P, hp, hcu, b2⟩
  have HB12 := hide b2
  have HP := hide P
  have HCU := hide hcu
  have HR2 := hide (HR1.out.below b2)
  clear hnw c4 P hp hcu
  obtain ⟨c0, c1, c2, c3, c4⟩ := five_of HR2.out
  have hh := mfhead_any z y k s a n c w2
  go_wp2_with fail
  refine hh.mono ?_
  rintro e w3 ⟨rfl, b3⟩
  have hfl := mffields_any z y k s n w3
  have HB13 := hide (HB12.out.trans (b3.mono b2.size))
  have HP3 := hide (HP.out.below b3)
  clear hh b3 HB12 HP c0 c1 c2 c3 c4 b2 HR2
  go_wp2_with fail
  refine hfl.mono ?_
  rintro e w4 ⟨rfl, b4⟩
  have HB14 := hide (HB13.out.trans (b4.mono HB13.out.size))
  have HP4 := hide (HP3.out.below b4)
  obtain ⟨FV, hFV⟩ : ∃ FV, fldsV z y k s n = FV := ⟨_, rfl⟩
  rw [hFV]
  have HFV := hide hFV
  clear hfl b4 HB13 HP3 hFV
  go_wp2
  go_loopw [7, 27] (fun _ cnt wr => ∃ (j : Nat) (g : Option Addr) (m d : Nat), j ≤ 5 ∧ cnt = .int .i64 j ∧ Hid (PW w1.heap.size wr p cu (20 + n * 4) g m d (accM z y k s n j, 0)) ∧ Hid (Below w1.heap.size w1 wr)) (fun _ cnt _ => 6 - (intOf cnt).toNat)
  case atStart => exact ⟨0, none, 0, 0, by omega, rfl, HP4.out, HB14.out⟩
  case round =>
    obtain ⟨j, g, m, d, hj, rfl, P, HBr⟩ := hrel
    by_cases hj5 : j < 5
    · have hji : (j : Int) < 5 := by omega
      have hix := run_fld z y k s n j hj5 wr
      rw [HFV.out] at hix
      have hfit := HF.out j
      rw [← HN.out] at hfit
      have hxl := hfit.2
      have hpw := putW_fit (most := 20 + n * 4) (zs := accM z y k s n j) (k := (widM j : Nat)) (x := numM z y k s n j) rfl (widM_is j) hfit.1 (by have := accM_len z y k s n j hj5; omega)
      have HPW : Hid (putW (20 + n * 4) (accM z y k s n j, 0) (widM j : Nat) (numM z y k s n j) = (accM z y k s n (j + 1), 0)) := hpw
      clear hpw hfit
      obtain ⟨x, hx⟩ : ∃ x, numM z y k s n j = x := ⟨_, rfl⟩
      obtain ⟨u, hu⟩ : ∃ u, (widM j : Int) = u := ⟨_, rfl⟩
      rw [hx] at hix hxl HPW
      rw [hu] at hix HPW
      clear hx hu
      have KB := below_new wr (.cells #[.int .i64 u, .int .i64 x] 53)
      have hpt := oput_any (k := u) (x := x) (P.out.below KB) hxl
      rw [HPW.out] at hpt
      have HP' := hide (P.out.below KB)
      have HBr' := hide (HBr.out.trans (KB.mono HBr.out.size))
      clear hxl KB P HBr
      go_wp2_with fail
      refine hpt.mono ?_
      rintro e w5 ⟨g', m', d', rfl, P5, S5, _⟩
      have HB5 := hide (HP'.out.base HBr'.out S5 HCU.out)
      have HP5 := hide P5
      clear hpt P5 S5 hix HP' HBr'
      go_wp2
      exact ⟨⟨j + 1, g', m', d', by omega, by go_num, HP5.out, HB5.out⟩, by simp [intOf]; omega⟩
    · obtain rfl : j = 5 := by omega
      have hP5 := P.out
      rw [HN.out, accM_head, ← HN.out] at hP5
      have HP5 := hide hP5
      have HW1 := hide (HB1.out.trans (HBr.out.mono HB1.out.size))
      have hR5 := HR1.out.lo HBr.out HR1.out.lt
      obtain ⟨c0, c1, c2, c3, c4⟩ := five_of hR5
      have HC4 := hide hR5
      clear P hP5 hR5 hj5 hj HP4 HB14
      go_wp2
      clear c0 c1 c2 c3 c4
      simp only [show ((5 : Nat) : Int) = 5 from rfl]
      go_loopw [9, 40] (fun _ cnt wq => ∃ (i : Nat) (g : Option Addr) (m d : Nat), i ≤ n ∧ cnt = .int .i64 i ∧ Hid (PW w1.heap.size wq p cu (20 + n * 4) g m d (headM ⟨z, y, k, s, ts⟩ ++ fours (ts.take i), 0)) ∧ Hid (Below w1.heap.size w1 wq)) (fun _ cnt _ => n + 1 - (intOf cnt).toNat)
      case atStart => exact ⟨0, g, m, d, by omega, rfl, by rw [List.take_zero, fours_nil, List.append_nil]; exact HP5.out, HBr.out⟩
      case round =>
        obtain ⟨i, g, m, d, hi, rfl, P, HBq⟩ := hrel
        by_cases hin : i < n
        · have hii : (i : Int) < (n : Int) := by omega
          have Xq := HX.out.below (HB1.out.trans (HBq.out.mono HB1.out.size))
          obtain ⟨b0, o0, rfl, _, _⟩ := Xq.row (by omega)
          have hcell := (Xq.cell (j := i) hin).1
          have hil : i < ts.length := by have := HN.out; omega
          have hwt : Wt (ts[i]?.getD 0) := by rw [List.getElem?_eq_getElem hil]; exact HWT.out _ (List.getElem_mem hil)
          have hft := fours_take hil
          have hpw := putW_fit (most := 20 + n * 4) (zs := headM ⟨z, y, k, s, ts⟩ ++ fours (ts.take i)) (k := 4) (x := ts[i]?.getD 0) (K := 4) rfl (by decide) ((fits_4 _).2 (by unfold Wt at hwt; omega)) (by rw [List.length_append, headM_length, fours_length, List.length_take]; omega)
          have HPW : Hid (putW (20 + n * 4) (headM ⟨z, y, k, s, ts⟩ ++ fours (ts.take i), 0) 4 (ts[i]?.getD 0) = (headM ⟨z, y, k, s, ts⟩ ++ fours (ts.take (i + 1)), 0)) := by rw [hft, ← List.append_assoc]; exact hpw
          clear hpw hft
          obtain ⟨x, hx⟩ : ∃ x, ts[i]?.getD 0 = x := ⟨_, rfl⟩
          rw [hx] at hcell hwt HPW
          have hxl : x ≤ 9223372036854775807 := by unfold Wt at hwt; omega
          have hpt := oput_any (k := 4) (x := x) P.out hxl
          rw [HPW.out] at hpt
          clear hxl hx hwt Xq hil
          go_wp2_with fail
          refine hpt.mono ?_
          rintro e w5 ⟨g', m', d', rfl, P5, S5, _⟩
          have HB5 := hide (P.out.base HBq.out S5 HCU.out)
          have HP5 := hide P5
          clear hpt P5 S5 hcell P HBq
          go_wp2
          exact ⟨⟨i + 1, g', m', d', by omega, by go_num, HP5.out, HB5.out⟩, by simp [intOf]; omega⟩
        · obtain rfl : i = n := by omega
          have hbt := obytes_any P.out
          have hbo : headM ⟨z, y, k, s, ts⟩ ++ fours (ts.take i) = bodyM ⟨z, y, k, s, ts⟩ := by rw [HN.out, List.take_length]; rfl
          unfold tells at hbt
          rw [if_pos rfl] at hbt
          dsimp only at hbt
          rw [hbo] at hbt
          clear hbo P
          have HBY := hide (HB1.out.trans (HBq.out.mono HB1.out.size))
          go_wp2_with fail
          refine hbt.mono ?_
          rintro e w6 ⟨a6, n6, c6, rfl, Y6, b6⟩
          have HY6 := hide (Y6.mono HBY.out.size)
          have HB6 := hide (HBY.out.trans (b6.mono HBY.out.size))
          clear hbt Y6 b6
          go_wp2
          refine bodyPost_ret (v := .tuple #[.slice a6 n6 c6, .int .i64 0]) (by simp [results, Try.f11, go_sem]) rfl ?_
          exact ⟨a6, n6, c6, rfl, HY6.out, HB6.out⟩
set_option maxRecDepth 100000 in
set_option maxHeartbeats 2000000 in
theorem mfput_no (z y k s : Int) (a : Option Addr) (n c : Nat) (ts : List Int) {lo : Nat} (w : World) (X : Intz lo w (.slice a n c) ts) (hM : ¬ MayM ⟨z, y, k, s, ts⟩) :
    Calls Try.prog 11 #[.agg #[.int .i64 z, .int .i64 y, .int .i64 k, .int .i64 s, .slice a n c]] w (BytPost [] 2 w) := by
  have B1 := below_new w (.cells #[.int .i64 z, .int .i64 y, .int .i64 k, .int .i64 s, .slice a n c] 24)
  have hc := mfcheck_any z y k s a n c ts _ (X.below B1)
  have HB := hide B1
  rw [checkM_no hM] at hc
  clear X B1 hM
  go_enter Try.func11, Try.ntmps11
  go_wp2_with fail
  refine hc.mono ?_
  rintro e w1 ⟨rfl, b1⟩
  have HB1 := hide (HB.out.trans (b1.mono HB.out.size))
  clear hc b1 HB
  go_wp2
  refine bodyPost_ret (v := .tuple #[.slice none 0 0, .int .i64 2]) (by simp [results, Try.f11, go_sem]) rfl ?_
  exact ⟨none, 0, 0, rfl, Byt.nil _ _, HB1.out⟩
theorem mfput_any (z y k s : Int) (a : Option Addr) (n c : Nat) (ts : List Int) {lo : Nat} (w : World) (X : Intz lo w (.slice a n c) ts) (hs : s ≤ 9223372036854775807) :
    Calls Try.prog 11 #[.agg #[.int .i64 z, .int .i64 y, .int .i64 k, .int .i64 s, .slice a n c]] w (BytPost (putM ⟨z, y, k, s, ts⟩) (checkM ⟨z, y, k, s, ts⟩) w) := by
  by_cases hM : MayM ⟨z, y, k, s, ts⟩
  · rw [putM_yes hM, checkM_yes hM]
    exact mfput_yes z y k s a n c ts w X hM hs
  · rw [putM_no hM, checkM_no hM]
    exact mfput_no z y k s a n c ts w X hM
theorem intz_lit (W : World) (g n : Nat) (hg : W.heap.size = g) (zs : List Int) (hz : Nums zs) (hn : zs.length = n) (cs : Array Value) (hc : cs = (zs.map (Value.int .i64)).toArray) : Intz g (W.alloc (.cells cs 3)) (.slice (some ⟨g, 0, none⟩) n n) zs := by
  subst hg hn hc
  have hh : (W.alloc (.cells (zs.map (Value.int .i64)).toArray 3)).heap[W.heap.size]? = some (.cells (zs.map (Value.int .i64)).toArray 3 (0, 0)) := World.alloc_heap_new W _
  refine ⟨hz, _, _, rfl, Nat.le_refl _, fun _ => ⟨_, 0, rfl, Nat.le_refl _, by simp, fun j hj => ?_, fun j _ => frozen_of_heap hh _⟩⟩
  rw [cell_of_heap hh, Nat.zero_add]
  simp [hj]
theorem nums_ones : Nums [1, 1] := fun z hz => by simp at hz; subst hz; decide
def mTen : MV := ⟨10, 2, 2, 7, [1, 1]⟩
set_option maxRecDepth 100000 in
set_option maxHeartbeats 1000000 in
theorem ten_any (w : World) : Calls Try.prog 26 #[] w fun e w' => ∃ g : Nat, e = .returned (.agg #[.int .i64 10, .int .i64 2, .int .i64 2, .int .i64 7, .slice (some ⟨g, 0, none⟩) 2 2]) ∧ Intz w.heap.size w' (.slice (some ⟨g, 0, none⟩) 2 2) [1, 1] ∧ Below w.heap.size w w' := by
  have B1 := below_new w (.cells #[.int .i64 10, .int .i64 2, .int .i64 2, .int .i64 7, .slice (some ⟨w.heap.size + 1, 0, none⟩) 2 2] 24)
  have B2 := below_new (w.alloc (.cells #[.int .i64 10, .int .i64 2, .int .i64 2, .int .i64 7, .slice (some ⟨w.heap.size + 1, 0, none⟩) 2 2] 24)) (.cells #[.int .i64 1, .int .i64 1] 3)
  have R2 := (Box.new w (.cells #[.int .i64 10, .int .i64 2, .int .i64 2, .int .i64 7, .slice (some ⟨w.heap.size + 1, 0, none⟩) 2 2] 24)).below B2
  have I2 := intz_lit (w.alloc (.cells #[.int .i64 10, .int .i64 2, .int .i64 2, .int .i64 7, .slice (some ⟨w.heap.size + 1, 0, none⟩) 2 2] 24)) (w.heap.size + 1) 2 (by simp) [1, 1] nums_ones rfl #[.int .i64 1, .int .i64 1] rfl
  have HB := hide (B1.trans (B2.mono B1.size))
  have HR := hide R2
  have HI := hide (I2.mono (Nat.le_succ _))
  clear B1 B2 R2 I2
  go_enter Try.func26, Try.ntmps26
  go_wp2
  obtain ⟨g0, g1, g2, g3, g4⟩ := five_of HR.out
  refine bodyPost_ret (v := .agg #[.int .i64 10, .int .i64 2, .int .i64 2, .int .i64 7, .slice (some ⟨w.heap.size + 1, 0, none⟩) 2 2]) (by simp [results, Try.f26, go_sem, g0, g1, g2, g3, g4]) rfl ?_
  exact ⟨w.heap.size + 1, rfl, HI.out, HB.out⟩
set_option maxRecDepth 100000 in
set_option maxHeartbeats 1000000 in
theorem long_any (z y k s : Int) (a : Option Addr) (n c : Nat) (w : World) :
    Calls Try.prog 8 #[.agg #[.int .i64 z, .int .i64 y, .int .i64 k, .int .i64 s, .slice a n c]] w fun e w' => e = .returned (.bool (decide (100 < n ∧ n ≤ 10000))) ∧ Below w.heap.size w w' := by
  have HB := hide (below_new w (.cells #[.int .i64 z, .int .i64 y, .int .i64 k, .int .i64 s, .slice a n c] 24))
  by_cases h1 : 100 < n
  · by_cases h2 : n ≤ 10000
    · rw [decide_eq_true ⟨h1, h2⟩]
      have i1 : 100 < (n : Int) := by omega
      have i2 : (n : Int) ≤ 10000 := by omega
      go_enter Try.func8, Try.ntmps8
      go_wp2
      go_ret
      exact ⟨rfl, HB.out⟩
    · rw [decide_eq_false (fun h => h2 h.2)]
      have i1 : 100 < (n : Int) := by omega
      have i2 : ¬ (n : Int) ≤ 10000 := by omega
      go_enter Try.func8, Try.ntmps8
      go_wp2
      go_ret
      exact ⟨rfl, HB.out⟩
  · rw [decide_eq_false (fun h => h1 h.1)]
    have i1 : ¬ 100 < (n : Int) := by omega
    go_enter Try.func8, Try.ntmps8
    go_wp2
    go_ret
    exact ⟨rfl, HB.out⟩
def bTen : List Int := [0, 0, 0, 10, 0, 2, 0, 0, 0, 2, 0, 0, 0, 0, 0, 0, 0, 7, 0, 2, 0, 0, 0, 1, 0, 0, 0, 1]
theorem may_ten : MayM ⟨10, 2, 2, 7, [1, 1]⟩ := by decide +kernel
theorem body_ten : bodyM ⟨10, 2, 2, 7, [1, 1]⟩ = bTen := by decide +kernel
theorem get_ten : getM bTen = (⟨10, 2, 2, 7, [1, 1]⟩, 0) := by
  have := getM_body may_ten (by decide)
  rwa [body_ten] at this
theorem put_ten : putM ⟨10, 2, 2, 7, [1, 1]⟩ = bTen := by rw [putM_yes may_ten, body_ten]
theorem octs_ten : Octs bTen := octs_of rfl
theorem blocks_ten : blocksM ⟨10, 2, 2, 7, [1, 1]⟩ = 3 := by
  unfold blocksM
  rw [if_pos may_ten]
  decide
set_option maxRecDepth 100000 in
set_option maxHeartbeats 2000000 in
theorem mawake_any (w : World) : Calls Try.prog 9 #[] w fun e w' => e = .returned (.bool true) ∧ Below w.heap.size w w' := by
  have ht := ten_any w
  have HP : Hid (∀ (V : World) (g lo : Nat), Intz lo V (.slice (some ⟨g, 0, none⟩) 2 2) [1, 1] → Calls Try.prog 11 #[.agg #[.int .i64 10, .int .i64 2, .int .i64 2, .int .i64 7, .slice (some ⟨g, 0, none⟩) 2 2]] V (BytPost bTen 0 V)) := fun V g lo I => by
    have := mfput_any 10 2 2 7 (some ⟨g, 0, none⟩) 2 2 [1, 1] V I (by decide)
    rwa [put_ten, checkM_yes may_ten] at this
  have HBl : Hid (∀ (V : World) (g lo : Nat), Intz lo V (.slice (some ⟨g, 0, none⟩) 2 2) [1, 1] → Calls Try.prog 18 #[.agg #[.int .i64 10, .int .i64 2, .int .i64 2, .int .i64 7, .slice (some ⟨g, 0, none⟩) 2 2]] V fun e w' => e = .returned (.int .i64 3) ∧ Below V.heap.size V w') := fun V g lo I => by
    have := mfblocks_any 10 2 2 7 (some ⟨g, 0, none⟩) 2 2 [1, 1] V I
    rwa [blocks_ten] at this
  have HT := hide (fun V => ten_any V)
  have HG : Hid (∀ (V : World) (g lo : Nat), Byt lo V (.slice (some ⟨g, 0, none⟩) 28 28) bTen → Calls Try.prog 23 #[.slice (some ⟨g, 0, none⟩) 28 28] V (GetSaid (⟨10, 2, 2, 7, [1, 1]⟩, 0) V)) := fun V g lo X => by
    have := mfget_any X
    rwa [get_ten] at this
  go_enter Try.func9, Try.ntmps9
  go_wp2_with fail
  refine ht.mono ?_
  rintro e w1 ⟨g1, rfl, I1, b1⟩
  have hp := HP.out w1 g1 _ I1
  have HB1 := hide b1
  clear ht I1 b1 HP
  go_wp2_with fail
  refine hp.mono ?_
  rintro e w2 ⟨a2, n2, c2, rfl, Y2, b2⟩
  have hn2 : n2 = 28 := Y2.len.1
  subst hn2
  have HB2 := hide (HB1.out.trans (b2.mono HB1.out.size))
  have q3 := below_new w2 (.cells #[.int .u8 0, .int .u8 0, .int .u8 0, .int .u8 10, .int .u8 0, .int .u8 2, .int .u8 0, .int .u8 0, .int .u8 0, .int .u8 2, .int .u8 0, .int .u8 0, .int .u8 0, .int .u8 0, .int .u8 0, .int .u8 0, .int .u8 0, .int .u8 7, .int .u8 0, .int .u8 2, .int .u8 0, .int .u8 0, .int .u8 0, .int .u8 1, .int .u8 0, .int .u8 0, .int .u8 0, .int .u8 1] 5)
  have y3 := byt_lit w2 w2.heap.size 28 rfl bTen octs_ten rfl #[.int .u8 0, .int .u8 0, .int .u8 0, .int .u8 10, .int .u8 0, .int .u8 2, .int .u8 0, .int .u8 0, .int .u8 0, .int .u8 2, .int .u8 0, .int .u8 0, .int .u8 0, .int .u8 0, .int .u8 0, .int .u8 0, .int .u8 0, .int .u8 7, .int .u8 0, .int .u8 2, .int .u8 0, .int .u8 0, .int .u8 0, .int .u8 1, .int .u8 0, .int .u8 0, .int .u8 0, .int .u8 1] rfl
  have hg := HG.out _ w2.heap.size _ y3
  have HB3 := hide (HB2.out.trans (q3.mono HB2.out.size))
  have HY2 := hide (Y2.below q3)
  have HY3 := hide y3
  clear hp Y2 b2 HB1 HB2 q3 y3 HG
  go_wp2_with fail
  refine hg.mono ?_
  rintro e w3 ⟨a4, n4, c4, rfl, I4, b4⟩
  dsimp only at I4 ⊢
  have B5 := below_new w3 (.cells #[.int .i64 10, .int .i64 2, .int .i64 2, .int .i64 7, .slice a4 n4 c4] 24)
  have HR5 := hide (Box.new w3 (.cells #[.int .i64 10, .int .i64 2, .int .i64 2, .int .i64 7, .slice a4 n4 c4] 24))
  have BB := b4.trans (B5.mono b4.size)
  have HB5 := hide (HB3.out.trans (BB.mono HB3.out.size))
  have HY25 := hide (HY2.out.below BB)
  have HY35 := hide (HY3.out.below BB)
  have HI5 := hide (I4.below B5)
  have hr := (Below.refl (w3.alloc (.cells #[.int .i64 10, .int .i64 2, .int .i64 2, .int .i64 7, .slice a4 n4 c4] 24)).heap.size (w3.alloc (.cells #[.int .i64 10, .int .i64 2, .int .i64 2, .int .i64 7, .slice a4 n4 c4] 24))).drew
  have HK : Hid (∀ V : World, Below (w3.alloc (.cells #[.int .i64 10, .int .i64 2, .int .i64 2, .int .i64 7, .slice a4 n4 c4] 24)).heap.size (w3.alloc (.cells #[.int .i64 10, .int .i64 2, .int .i64 2, .int .i64 7, .slice a4 n4 c4] 24)) V → V.cell? ⟨w3.heap.size, 0, none⟩ = some (.int .i64 10) ∧ V.cell? ⟨w3.heap.size, 1, none⟩ = some (.int .i64 2) ∧ V.cell? ⟨w3.heap.size, 2, none⟩ = some (.int .i64 2) ∧ V.cell? ⟨w3.heap.size, 3, none⟩ = some (.int .i64 7) ∧ V.cell? ⟨w3.heap.size, 4, none⟩ = some (.slice a4 n4 c4)) := fun V hV => five_of (HR5.out.below hV)
  have HSB : Hid (∀ V : World, Below (w3.alloc (.cells #[.int .i64 10, .int .i64 2, .int .i64 2, .int .i64 7, .slice a4 n4 c4] 24)).heap.size (w3.alloc (.cells #[.int .i64 10, .int .i64 2, .int .i64 2, .int .i64 7, .slice a4 n4 c4] 24)) V → Calls Try.prog 15 #[.slice a2 28 c2, .slice (some ⟨w2.heap.size, 0, none⟩) 28 28] V fun e w' => e = .returned (.bool true) ∧ Below V.heap.size V w') := fun V hV => sameb_yes (HY25.out.below hV) (HY35.out.below hV) rfl
  have HSM : Hid (∀ (V : World) (g lo : Nat), Below (w3.alloc (.cells #[.int .i64 10, .int .i64 2, .int .i64 2, .int .i64 7, .slice a4 n4 c4] 24)).heap.size (w3.alloc (.cells #[.int .i64 10, .int .i64 2, .int .i64 2, .int .i64 7, .slice a4 n4 c4] 24)) V → Intz lo V (.slice (some ⟨g, 0, none⟩) 2 2) [1, 1] → Calls Try.prog 21 #[.agg #[.int .i64 10, .int .i64 2, .int .i64 2, .int .i64 7, .slice a4 n4 c4], .agg #[.int .i64 10, .int .i64 2, .int .i64 2, .int .i64 7, .slice (some ⟨g, 0, none⟩) 2 2]] V fun e w' => e = .returned (.bool true) ∧ Below V.heap.size V w') := fun V g lo hV J => samem_any 10 2 2 7 10 2 2 7 a4 (some ⟨g, 0, none⟩) n4 c4 2 2 _ _ [1, 1] [1, 1] V (HI5.out.below hV) J (by have := HI5.out.len.1; simp at this; omega)
  clear hg I4 b4 B5 BB HB3 HY2 HY3
  have t0 : Hid True := trivial
  go_wp2_with fail
  go_region_held3 (fun V : World => V.cell? ⟨w3.heap.size, 0, none⟩ = some (.int .i64 10) ∧ V.cell? ⟨w3.heap.size, 1, none⟩ = some (.int .i64 2) ∧ V.cell? ⟨w3.heap.size, 2, none⟩ = some (.int .i64 2) ∧ V.cell? ⟨w3.heap.size, 3, none⟩ = some (.int .i64 7) ∧ V.cell? ⟨w3.heap.size, 4, none⟩ = some (.slice a4 n4 c4)) (exact HK.out _ hr)
    (first
    | (clear t0
       go_at_call 15
       refine (HSB.out _ hr).mono ?_
       rintro e y1 ⟨rfl, hb⟩
       replace hr := hr.trans (hb.mono hr.size)
       clear hb
       have t1 : Hid True := trivial)
    | (clear t1
       go_at_call 26
       refine (HT.out _).mono ?_
       rintro e y2 ⟨g2, rfl, J2, hb⟩
       replace hr := hr.trans (hb.mono hr.size)
       clear hb
       have t2 : Hid True := trivial)
    | (clear t2
       go_at_call 21
       refine (HSM.out _ _ _ hr J2).mono ?_
       rintro e y3 ⟨rfl, hb⟩
       replace hr := hr.trans (hb.mono hr.size)
       clear hb J2
       have t3 : Hid True := trivial)
    | (clear t3
       go_at_call 26
       refine (HT.out _).mono ?_
       rintro e y4 ⟨g4, rfl, J4, hb⟩
       replace hr := hr.trans (hb.mono hr.size)
       clear hb
       have t4 : Hid True := trivial)
    | (clear t4
       go_at_call 18
       refine (HBl.out _ _ _ J4).mono ?_
       rintro e y5 ⟨rfl, hb⟩
       replace hr := hr.trans (hb.mono hr.size)
       clear hb J4
       have t5 : Hid True := trivial))
  all_goals
    have HRR := hide (HB5.out.trans (hr.mono HB5.out.size))
    clear hr t5
    go_wp2
    go_ret
    exact ⟨rfl, HRR.out⟩
theorem be_take (K X j : Nat) (hj : j < K) : (be K X).take (j + 1) = (be K X).take j ++ [((X / 256 ^ (K - 1 - j) % 256 : Nat) : Int)] := by
  rw [List.take_add_one]
  congr 1
  have h : (be K X)[j]? = some ((X / 256 ^ (K - 1 - j) % 256 : Nat) : Int) := by
    unfold be
    rw [List.getElem?_map, List.getElem?_range hj]
    rfl
  rw [h]
  rfl
theorem OwnB.lenv {lo : Nat} {W : World} {a : Option Addr} {n c : Nat} {zs : List Int} (h : OwnB lo W (.slice a n c) zs) : zs.length = n := by
  obtain ⟨_, _, e, _⟩ := ownb_seg h
  simp only [Value.slice.injEq] at e
  exact e.2.1.symm
set_option maxRecDepth 100000 in
set_option maxHeartbeats 1000000 in
theorem dmput_bytes {lo : Nat} {a : Option Addr} {n c : Nat} {zs : List Int} {w : World} (K X : Nat) (hK : 0 < K) (hK8 : K ≤ 8) (hX : X < 9223372036854775808) (O : OwnB lo w (.slice a n c) zs) (hn : n ≤ 900000) (hlo : lo ≤ w.heap.size) :
    Calls Try.prog 35 #[.slice a n c, .int .i64 (K : Nat), .int .i64 (X : Nat)] w fun e w' => ∃ (a' : Option Addr) (c' : Nat), e = .returned (.slice a' (n + K) c') ∧ OwnB lo w' (.slice a' (n + K) c') (zs ++ be K X) ∧ Below lo w w' := by
  have HO := hide O
  have HN := hide hn
  have HL := hide hlo
  have HX := hide hX
  have hw0 : IntKind.i64.wrap ((K : Int) - 1) = (K : Int) - 1 := wrap_in (by omega)
  clear O hn hlo hX
  go_enter Try.func35, Try.ntmps35
  go_wp2
  go_loopw [0, 7] (fun sv iv wr => ∃ (t : Nat) (a' : Option Addr) (m c' : Nat), t ≤ K ∧ iv = .int .i64 ((t : Int) - 1) ∧ sv = .slice a' m c' ∧ Hid (m = n + (K - t)) ∧ Hid (OwnB lo wr (.slice a' m c') (zs ++ (be K X).take (K - t))) ∧ Hid (Below lo w wr)) (fun _ iv _ => (intOf iv + 1).toNat)
  case atStart => exact ⟨K, a, n, c, Nat.le_refl _, rfl, rfl, by show n = n + (K - K); omega, by rw [Nat.sub_self, List.take_zero, List.append_nil]; exact HO.out, Below.refl _ _⟩
  case round =>
    obtain ⟨t, a', m, c', ht, rfl, rfl, M, O, B⟩ := hrel
    match t with
    | 0 =>
      have hm : m = n + K := M.out
      subst hm
      have hO : OwnB lo wr (.slice a' (n + K) c') (zs ++ be K X) := by
        have := O.out
        rwa [Nat.sub_zero, List.take_of_length_le (by rw [be_length]; omega)] at this
      have HO2 := hide hO
      clear hO O M
      obtain ⟨v, hv⟩ : ∃ v : Int, ((0 : Nat) : Int) - 1 = v := ⟨_, rfl⟩
      have hv0 : ¬ 0 ≤ v := by omega
      rw [hv]
      clear hv
      go_wp2
      go_ret
      exact ⟨a', c', rfl, HO2.out, B.out⟩
    | s + 1 =>
      have hsi : (((s + 1 : Nat) : Int) - 1) = (s : Int) := by omega
      rw [hsi]
      have hs0 : (0 : Int) ≤ (s : Int) := by omega
      have hpow : (2 : Nat) ^ (8 * s) = 256 ^ s := by rw [Nat.pow_mul]
      have hx : (X : Int) / 2 ^ (8 * s) % 256 = ((X / 256 ^ (K - 1 - (K - (s + 1))) % 256 : Nat) : Int) := by
        rw [show K - 1 - (K - (s + 1)) = s by omega, ← hpow]
        push_cast
        rfl
      have hxr : 0 ≤ (X : Int) / 2 ^ (8 * s) % 256 ∧ (X : Int) / 2 ^ (8 * s) % 256 < 256 := by rw [hx]; omega
      have htk := be_take K X (K - (s + 1)) (by omega)
      rw [← hx] at htk
      have hlen := O.out.lenv
      obtain ⟨a2, c2, w2, hap, O2, B2⟩ := ownb_append O.out ((X : Int) / 2 ^ (8 * s) % 256) hxr (by have := M.out; have := HN.out; omega) (Nat.le_trans HL.out B.out.size)
      rw [hlen] at hap O2
      have HO2 : Hid (OwnB lo w2 (.slice a2 (m + 1) c2) (zs ++ (be K X).take (K - s))) := by
        rw [show K - s = K - (s + 1) + 1 by omega, htk, ← List.append_assoc]
        exact O2
      have HB2 := hide (B.out.trans B2)
      have HM2 : Hid (m + 1 = n + (K - s)) := by have := M.out; show m + 1 = n + (K - s); omega
      clear hpow hx hxr htk hlen O2 B2 O B M
      go_wp2_with (at_builtin; refine Lib.wpList_append_run _ rfl _ _ _ _ rfl _ _ rfl rfl _ _ hap ?_)
      exact ⟨⟨s, a2, m + 1, c2, by omega, rfl, rfl, HM2.out, HO2.out, HB2.out⟩, by simp [intOf]⟩
set_option maxRecDepth 100000 in
set_option maxHeartbeats 2000000 in
theorem dmput_no (z y k s : Int) (a : Option Addr) (n c : Nat) (ts : List Int) {lo : Nat} (w : World) (X : Intz lo w (.slice a n c) ts) (hM : ¬ MayM ⟨z, y, k, s, ts⟩) :
    Calls Try.prog 12 #[.agg #[.int .i64 z, .int .i64 y, .int .i64 k, .int .i64 s, .slice a n c]] w (BytPost [] 2 w) := by
  have B1 := below_new w (.cells #[.int .i64 z, .int .i64 y, .int .i64 k, .int .i64 s, .slice a n c] 24)
  have hc := dmcheck_any z y k s a n c ts _ (X.below B1)
  have HB := hide B1
  rw [checkM_no hM] at hc
  clear X B1 hM
  go_enter Try.func12, Try.ntmps12
  go_wp2_with fail
  refine hc.mono ?_
  rintro e w1 ⟨rfl, b1⟩
  have HB1 := hide (HB.out.trans (b1.mono HB.out.size))
  clear hc b1 HB
  go_wp2
  refine bodyPost_ret (v := .tuple #[.slice none 0 0, .int .i64 2]) (by simp [results, Try.f12, go_sem]) rfl ?_
  exact ⟨none, 0, 0, rfl, Byt.nil _ _, HB1.out⟩
set_option maxRecDepth 100000 in
set_option maxHeartbeats 2000000 in
theorem dmput_yes (z y k s : Int) (a : Option Addr) (n c : Nat) (ts : List Int) {lo : Nat} (w : World) (X : Intz lo w (.slice a n c) ts) (hM : MayM ⟨z, y, k, s, ts⟩) (hs : s ≤ 9223372036854775807) :
    Calls Try.prog 12 #[.agg #[.int .i64 z, .int .i64 y, .int .i64 k, .int .i64 s, .slice a n c]] w (BytPost (bodyM ⟨z, y, k, s, ts⟩) 0 w) := by
  have hn := X.len.1
  have B1 := below_new w (.cells #[.int .i64 z, .int .i64 y, .int .i64 k, .int .i64 s, .slice a n c] 24)
  have hc := dmcheck_any z y k s a n c ts _ (X.below B1)
  have HR := hide (Box.new w (.cells #[.int .i64 z, .int .i64 y, .int .i64 k, .int .i64 s, .slice a n c] 24))
  have HB := hide B1
  rw [checkM_yes hM] at hc
  have hn4 : n ≤ 10000 := by have := hM.2.2.2.2.1; dsimp only at this; omega
  have HX := hide X
  have HWT := hide (wts_each hM.2.2.2.2.2.1)
  have HN := hide hn
  have HN4 := hide hn4
  obtain ⟨h1, h2, h3, h4, _⟩ := hM
  dsimp only at h1 h2 h3 h4
  obtain ⟨Z, rfl⟩ := Int.eq_ofNat_of_zero_le h1.1
  obtain ⟨Y, rfl⟩ := Int.eq_ofNat_of_zero_le (show 0 ≤ y by omega)
  obtain ⟨K, rfl⟩ := Int.eq_ofNat_of_zero_le (show 0 ≤ k by omega)
  obtain ⟨S, rfl⟩ := Int.eq_ofNat_of_zero_le h4
  have HHD : Hid (((([] ++ be 4 Z) ++ be 2 Y) ++ be 4 K) ++ be 8 S ++ be 2 n = headM ⟨Z, Y, K, S, ts⟩) := by
    show _ = _
    unfold headM
    dsimp only
    rw [hn]
    simp
  have P1 : Hid (∀ (W : World) (lo : Nat), lo ≤ W.heap.size → Calls Try.prog 35 #[.slice none 0 0, .int .i64 4, .int .i64 (Z : Nat)] W fun e w' => ∃ (a' : Option Addr) (c' : Nat), e = .returned (.slice a' 4 c') ∧ OwnB lo w' (.slice a' 4 c') ([] ++ be 4 Z) ∧ Below lo W w') := fun W lo h => by simpa using dmput_bytes 4 Z (by decide) (by decide) (by omega) (ownb_nil lo W) (by decide) h
  have P2 : Hid (∀ (W : World) (lo : Nat) (g : Option Addr) (d : Nat) (xs : List Int), lo ≤ W.heap.size → OwnB lo W (.slice g 4 d) xs → Calls Try.prog 35 #[.slice g 4 d, .int .i64 2, .int .i64 (Y : Nat)] W fun e w' => ∃ (a' : Option Addr) (c' : Nat), e = .returned (.slice a' 6 c') ∧ OwnB lo w' (.slice a' 6 c') (xs ++ be 2 Y) ∧ Below lo W w') := fun W lo g d xs h O => dmput_bytes 2 Y (by decide) (by decide) (by omega) O (by decide) h
  have P3 : Hid (∀ (W : World) (lo : Nat) (g : Option Addr) (d : Nat) (xs : List Int), lo ≤ W.heap.size → OwnB lo W (.slice g 6 d) xs → Calls Try.prog 35 #[.slice g 6 d, .int .i64 4, .int .i64 (K : Nat)] W fun e w' => ∃ (a' : Option Addr) (c' : Nat), e = .returned (.slice a' 10 c') ∧ OwnB lo w' (.slice a' 10 c') (xs ++ be 4 K) ∧ Below lo W w') := fun W lo g d xs h O => dmput_bytes 4 K (by decide) (by decide) (by omega) O (by decide) h
  have P4 : Hid (∀ (W : World) (lo : Nat) (g : Option Addr) (d : Nat) (xs : List Int), lo ≤ W.heap.size → OwnB lo W (.slice g 10 d) xs → Calls Try.prog 35 #[.slice g 10 d, .int .i64 8, .int .i64 (S : Nat)] W fun e w' => ∃ (a' : Option Addr) (c' : Nat), e = .returned (.slice a' 18 c') ∧ OwnB lo w' (.slice a' 18 c') (xs ++ be 8 S) ∧ Below lo W w') := fun W lo g d xs h O => dmput_bytes 8 S (by decide) (by decide) (by omega) O (by decide) h
  have P5 : Hid (∀ (W : World) (lo : Nat) (g : Option Addr) (d : Nat) (xs : List Int), lo ≤ W.heap.size → OwnB lo W (.slice g 18 d) xs → Calls Try.prog 35 #[.slice g 18 d, .int .i64 2, .int .i64 (n : Nat)] W fun e w' => ∃ (a' : Option Addr) (c' : Nat), e = .returned (.slice a' 20 c') ∧ OwnB lo w' (.slice a' 20 c') (xs ++ be 2 n) ∧ Below lo W w') := fun W lo g d xs h O => dmput_bytes 2 n (by decide) (by decide) (by omega) O (by decide) h
  have PW : Hid (∀ (W : World) (lo : Nat) (g : Option Addr) (m d x : Nat) (xs : List Int), lo ≤ W.heap.size → m ≤ 900000 → x < 4294967296 → OwnB lo W (.slice g m d) xs → Calls Try.prog 35 #[.slice g m d, .int .i64 4, .int .i64 (x : Nat)] W fun e w' => ∃ (a' : Option Addr) (c' : Nat), e = .returned (.slice a' (m + 4) c') ∧ OwnB lo w' (.slice a' (m + 4) c') (xs ++ be 4 x) ∧ Below lo W w') := fun W lo g m d x xs h hm hx O => dmput_bytes 4 x (by decide) (by decide) (by omega) O hm h
  clear X B1 hs hn h1 h2 h3 h4
  go_enter Try.func12, Try.ntmps12
  go_wp2_with fail
  refine hc.mono ?_
  rintro e w1 ⟨rfl, b1⟩
  have HB1 := hide (HB.out.trans (b1.mono HB.out.size))
  have HR1 := hide (HR.out.below b1)
  have HLT : Hid (w.heap.size < w1.heap.size) := (HR.out.below b1).lt
  clear hc b1 HB HR
  have HKG : Hid (∀ V : World, Below w1.heap.size w1 V → V.cell? ⟨w.heap.size, 0, none⟩ = some (.int .i64 (Z : Nat)) ∧ V.cell? ⟨w.heap.size, 1, none⟩ = some (.int .i64 (Y : Nat)) ∧ V.cell? ⟨w.heap.size, 2, none⟩ = some (.int .i64 (K : Nat)) ∧ V.cell? ⟨w.heap.size, 3, none⟩ = some (.int .i64 (S : Nat)) ∧ V.cell? ⟨w.heap.size, 4, none⟩ = some (.slice a n c)) := fun V hV => five_of (HR1.out.below hV)
  have hr := (Below.refl w1.heap.size w1).drew
  have t0 : Hid True := trivial
  go_wp2_with fail
  go_region_held3 (fun V : World => V.cell? ⟨w.heap.size, 0, none⟩ = some (.int .i64 (Z : Nat)) ∧ V.cell? ⟨w.heap.size, 1, none⟩ = some (.int .i64 (Y : Nat)) ∧ V.cell? ⟨w.heap.size, 2, none⟩ = some (.int .i64 (K : Nat)) ∧ V.cell? ⟨w.heap.size, 3, none⟩ = some (.int .i64 (S : Nat)) ∧ V.cell? ⟨w.heap.size, 4, none⟩ = some (.slice a n c)) (exact HKG.out _ hr)
    (first
    | (clear t0
       go_at_call 35
       refine (P1.out _ w1.heap.size hr.size).mono ?_
       rintro e v1 ⟨a1, c1, rfl, O1, hb⟩
       replace hr := hr.trans hb
       clear hb
       have t1 : Hid True := trivial)
    | (clear t1
       go_at_call 35
       refine (P2.out _ w1.heap.size _ _ _ hr.size O1).mono ?_
       rintro e v2 ⟨a2, c2, rfl, O2, hb⟩
       replace hr := hr.trans hb
       clear hb O1
       have t2 : Hid True := trivial)
    | (clear t2
       go_at_call 35
       refine (P3.out _ w1.heap.size _ _ _ hr.size O2).mono ?_
       rintro e v3 ⟨a3, c3, rfl, O3, hb⟩
       replace hr := hr.trans hb
       clear hb O2
       have t3 : Hid True := trivial)
    | (clear t3
       go_at_call 35
       refine (P4.out _ w1.heap.size _ _ _ hr.size O3).mono ?_
       rintro e v4 ⟨a4, c4, rfl, O4, hb⟩
       replace hr := hr.trans hb
       clear hb O3
       have t4 : Hid True := trivial)
    | (clear t4
       go_at_call 35
       refine (P5.out _ w1.heap.size _ _ _ hr.size O4).mono ?_
       rintro e v5 ⟨a5, c5, rfl, O5, hb⟩
       replace hr := hr.trans hb
       clear hb O4
       have t5 : Hid True := trivial))
  all_goals
    rw [HHD.out] at O5
    have HO5 := hide O5
    have HB5 := hide hr
    clear O5 hr t5 P1 P2 P3 P4 P5 HKG HHD
    go_wp2
    go_loopw [4, 5] (fun sv cnt wr => ∃ (i m : Nat) (g : Option Addr) (d : Nat), i ≤ n ∧ cnt = .int .i64 i ∧ sv = .slice g m d ∧ Hid (m = 20 + 4 * i) ∧ Hid (OwnB w1.heap.size wr (.slice g m d) (headM ⟨Z, Y, K, S, ts⟩ ++ fours (ts.take i))) ∧ Hid (Below w1.heap.size w1 wr)) (fun _ cnt _ => n + 1 - (intOf cnt).toNat)
    case atStart => exact ⟨0, 20, a5, c5, Nat.zero_le _, rfl, rfl, rfl, by rw [List.take_zero, fours_nil, List.append_nil]; exact HO5.out, HB5.out⟩
    case round =>
      obtain ⟨i, m, g, d, hi, rfl, rfl, M, O, B⟩ := hrel
      obtain ⟨c0, c1, c2, c3, c4⟩ := five_of (HR1.out.below B.out)
      by_cases hin : i < n
      · have hii : (i : Int) < (n : Int) := by omega
        have Xq := HX.out.below (HB1.out.trans (B.out.mono HB1.out.size))
        obtain ⟨b0, o0, rfl, _, _⟩ := Xq.row (by omega)
        have hcell := (Xq.cell (j := i) hin).1
        have hil : i < ts.length := by have := HN.out; omega
        have hwt : Wt (ts[i]?.getD 0) := by rw [List.getElem?_eq_getElem hil]; exact HWT.out _ (List.getElem_mem hil)
        have hft := fours_take hil
        obtain ⟨x, hx⟩ := Int.eq_ofNat_of_zero_le hwt.1
        rw [hx] at hcell hwt hft
        have hxl : x < 4294967296 := by unfold Wt at hwt; omega
        rw [Int.toNat_natCast] at hft
        have hpt := PW.out _ w1.heap.size _ m d x _ B.out.size (by have := M.out; have := HN4.out; omega) hxl O.out
        have HF : Hid (headM ⟨Z, Y, K, S, ts⟩ ++ fours (ts.take i) ++ be 4 x = headM ⟨Z, Y, K, S, ts⟩ ++ fours (ts.take (i + 1))) := by rw [hft, List.append_assoc]; rfl
        clear hxl hx hwt Xq hil hft
        go_wp2_with fail
        refine hpt.mono ?_
        rintro e v6 ⟨a6, c6, rfl, O6, b6⟩
        rw [HF.out] at O6
        have HO6 := hide O6
        have HB6 := hide (B.out.trans b6)
        have HM6 : Hid (m + 4 = 20 + 4 * (i + 1)) := by have := M.out; show m + 4 = 20 + 4 * (i + 1); omega
        clear hpt O6 b6 hcell O B M HF c0 c1 c2 c3 c4
        go_wp2
        exact ⟨⟨i + 1, m + 4, a6, c6, by omega, by go_num, rfl, HM6.out, HO6.out, HB6.out⟩, by simp [intOf]; omega⟩
      · obtain rfl : i = n := by omega
        have hO := O.out
        rw [HN.out, List.take_length] at hO
        obtain ⟨_, _, e6, Y6⟩ := ownb_seg hO
        rw [← e6] at Y6
        have HY6 := hide (Y6.mono HB1.out.size)
        have HB6 := hide (HB1.out.trans (B.out.mono HB1.out.size))
        clear hO e6 Y6 O B M
        go_wp2
        refine bodyPost_ret (v := .tuple #[.slice g m d, .int .i64 0]) (by simp [results, Try.f12, go_sem]) rfl ?_
        exact ⟨g, m, d, rfl, HY6.out, HB6.out⟩
theorem dmputs_any (z y k s : Int) (a : Option Addr) (n c : Nat) (ts : List Int) {lo : Nat} (w : World) (X : Intz lo w (.slice a n c) ts) (hs : s ≤ 9223372036854775807) :
    Calls Try.prog 12 #[.agg #[.int .i64 z, .int .i64 y, .int .i64 k, .int .i64 s, .slice a n c]] w (BytPost (putM ⟨z, y, k, s, ts⟩) (checkM ⟨z, y, k, s, ts⟩) w) := by
  by_cases hM : MayM ⟨z, y, k, s, ts⟩
  · rw [putM_yes hM, checkM_yes hM]
    exact dmput_yes z y k s a n c ts w X hM hs
  · rw [putM_no hM, checkM_no hM]
    exact dmput_no z y k s a n c ts w X hM
theorem putM_len (m : MV) : (putM m).length ≤ 40020 := by
  unfold putM
  by_cases h : MayM m
  · rw [if_pos h, bodyM_length]
    have := h.2.2.2.2.1
    omega
  · rw [if_neg h]
    exact Nat.zero_le _
set_option maxRecDepth 100000 in
set_option maxHeartbeats 1000000 in
theorem mtells_long (z y k s : Int) (a : Option Addr) (n c : Nat) (b : Int) (w : World) (h : 100 < n ∧ n ≤ 10000) :
    Calls Try.prog 3 #[.agg #[.int .i64 z, .int .i64 y, .int .i64 k, .int .i64 s, .slice a n c], .int .i64 b] w fun e w' => e = .returned (.bool true) ∧ Below w.heap.size w w' := by
  have B1 := below_new w (.cells #[.int .i64 z, .int .i64 y, .int .i64 k, .int .i64 s, .slice a n c] 24)
  have hlg := long_any z y k s a n c (w.alloc (.cells #[.int .i64 z, .int .i64 y, .int .i64 k, .int .i64 s, .slice a n c] 24))
  rw [decide_eq_true h] at hlg
  have HB := hide B1
  clear B1 h
  go_enter Try.func3, Try.ntmps3
  go_wp2_with fail
  refine hlg.mono ?_
  rintro e w1 ⟨rfl, b1⟩
  have HB1 := hide (HB.out.trans (b1.mono HB.out.size))
  have hk := mawake_any w1
  clear hlg b1
  go_wp2_with fail
  refine hk.mono ?_
  rintro e w2 ⟨rfl, b2⟩
  have HB2 := hide (HB1.out.trans (b2.mono HB1.out.size))
  clear hk b2
  go_wp2
  go_ret
  exact ⟨rfl, HB2.out⟩
set_option maxRecDepth 100000 in
set_option maxHeartbeats 4000000 in
theorem mtells_short (z y k s : Int) (a : Option Addr) (n c : Nat) (ts : List Int) (b : Int) (w : World) (X : Intz 0 w (.slice a n c) ts) (hs : s ≤ 9223372036854775807) (hbig : n ≤ 17592186044416) (h : ¬ (100 < n ∧ n ≤ 10000)) :
    Calls Try.prog 3 #[.agg #[.int .i64 z, .int .i64 y, .int .i64 k, .int .i64 s, .slice a n c], .int .i64 b] w fun e w' => e = .returned (.bool true) ∧ Below w.heap.size w w' := by
  have B1 := below_new w (.cells #[.int .i64 z, .int .i64 y, .int .i64 k, .int .i64 s, .slice a n c] 24)
  have hlg := long_any z y k s a n c (w.alloc (.cells #[.int .i64 z, .int .i64 y, .int .i64 k, .int .i64 s, .slice a n c] 24))
  rw [decide_eq_false h] at hlg
  have HB := hide B1
  have HR := hide (Box.new w (.cells #[.int .i64 z, .int .i64 y, .int .i64 k, .int .i64 s, .slice a n c] 24))
  have HX0 := hide X
  have HX := hide (X.below B1)
  have HS := hide hs
  have HG := hide hbig
  obtain ⟨E, hE⟩ : ∃ E, checkM ⟨z, y, k, s, ts⟩ = E := ⟨_, rfl⟩
  obtain ⟨P, hP⟩ : ∃ P, putM ⟨z, y, k, s, ts⟩ = P := ⟨_, rfl⟩
  obtain ⟨⟨p1, p2, p3⟩, hQ⟩ : ∃ Q, partM ⟨z, y, k, s, ts⟩ b = Q := ⟨_, rfl⟩
  obtain ⟨N, hN⟩ : ∃ N, blocksM ⟨z, y, k, s, ts⟩ = N := ⟨_, rfl⟩
  have hPl := putM_len ⟨z, y, k, s, ts⟩
  rw [hP] at hPl
  have HE := hide hE
  have HP := hide hP
  have HQ := hide hQ
  have HN := hide hN
  have HPL := hide hPl
  have he1 : (E == E) = true := beq_self_eq_true _
  have he2 : (p1 == p1) = true := beq_self_eq_true _
  have he3 : (p2 == p2) = true := beq_self_eq_true _
  have he4 : (p3 == p3) = true := beq_self_eq_true _
  have he5 : (N == N) = true := beq_self_eq_true _
  clear B1 h X hs hbig hE hP hQ hN hPl
  go_enter Try.func3, Try.ntmps3
  go_wp2_with fail
  refine hlg.mono ?_
  rintro e w1 ⟨rfl, b1⟩
  have HB1 := hide (HB.out.trans (b1.mono HB.out.size))
  have HR1 := hide (HR.out.below b1)
  have HX1 := hide (HX.out.below b1)
  obtain ⟨c0, c1, c2, c3, c4⟩ := five_of HR1.out
  have hcp := copym_any z y k s a n c _ ts w1 HX1.out HG.out
  clear hlg b1 HB HR HX
  go_wp2_with fail
  refine hcp.mono ?_
  rintro e w2 ⟨a2, d2, rfl, I2, b2⟩
  have B3 := below_new w2 (.cells #[.int .i64 z, .int .i64 y, .int .i64 k, .int .i64 s, .slice a2 n d2] 24)
  have BB := b2.trans (B3.mono b2.size)
  have HB3 := hide (HB1.out.trans (BB.mono HB1.out.size))
  have HB3X := hide HB3.out
  have HR3 := hide (HR1.out.below BB)
  have HX3 := hide (HX1.out.below BB)
  have HI3 := hide (I2.below B3)
  have HJ3 := hide (Box.new w2 (.cells #[.int .i64 z, .int .i64 y, .int .i64 k, .int .i64 s, .slice a2 n d2] 24))
  have hput := mfput_any z y k s a2 n d2 ts _ HI3.out HS.out
  rw [HP.out, HE.out] at hput
  clear hcp I2 b2 B3 BB HB1 HR1 HX1 c0 c1 c2 c3 c4
  go_wp2_with fail
  refine hput.mono ?_
  rintro e w4 ⟨a4, n4, d4, rfl, Y4, b4⟩
  have HA4 := hide Y4
  have HAB := hide Y4.block
  have HB4 := hide (HB3.out.trans (b4.mono HB3.out.size))
  have HB34 := hide b4
  have HR4 := hide (HR3.out.below b4)
  have HX4 := hide (HX3.out.below b4)
  have HI4 := hide (HI3.out.below b4)
  have HJ4 := hide (HJ3.out.below b4)
  have hput := dmputs_any z y k s a n c ts w4 HX4.out HS.out
  rw [HP.out, HE.out] at hput
  obtain ⟨c0, c1, c2, c3, c4⟩ := five_of HR4.out
  clear Y4 b4 HB3
  go_wp2_with fail
  refine hput.mono ?_
  rintro e w5 ⟨a5, n5, d5, rfl, Y5, b5⟩
  have HA5 := hide (HA4.out.below b5)
  have HD5 := hide Y5
  have HB5 := hide (HB4.out.trans (b5.mono HB4.out.size))
  have HB35 := hide (HB34.out.trans (b5.mono HB34.out.size))
  have HR5 := hide (HR4.out.below b5)
  have HX5 := hide (HX4.out.below b5)
  have HI5 := hide (HI4.out.below b5)
  have HJ5 := hide (HJ4.out.below b5)
  have hpt := mfpart_any z y k s a2 n d2 ts b w5 HI5.out
  rw [HQ.out] at hpt
  dsimp only at hpt
  clear hput Y5 b5 HA4 HB4 HB34 HR4 HX4 HI4 HJ4 c0 c1 c2 c3 c4
  obtain ⟨c0, c1, c2, c3, c4⟩ := five_of HJ5.out
  go_wp2_with fail
  refine hpt.mono ?_
  rintro e w6 ⟨rfl, b6⟩
  have HA6 := hide (HA5.out.below b6)
  have HD6 := hide (HD5.out.below b6)
  have HB6 := hide (HB5.out.trans (b6.mono HB5.out.size))
  have HB36 := hide (HB35.out.trans (b6.mono HB35.out.size))
  have HR6 := hide (HR5.out.below b6)
  have HX6 := hide (HX5.out.below b6)
  have HI6 := hide (HI5.out.below b6)
  have HJ6 := hide (HJ5.out.below b6)
  have hpt := dmpart_any z y k s a n c ts b w6 HX6.out
  rw [HQ.out] at hpt
  dsimp only at hpt
  clear b6 HA5 HD5 HB5 HB35 HR5 HX5 HI5 HJ5 c0 c1 c2 c3 c4
  obtain ⟨c0, c1, c2, c3, c4⟩ := five_of HR6.out
  go_wp2_with fail
  refine hpt.mono ?_
  rintro e w7 ⟨rfl, b7⟩
  have HA7 := hide (HA6.out.below b7)
  have HD7 := hide (HD6.out.below b7)
  have HB7 := hide (HB6.out.trans (b7.mono HB6.out.size))
  have HB37 := hide (HB36.out.trans (b7.mono HB36.out.size))
  have HR7 := hide (HR6.out.below b7)
  have HX7 := hide (HX6.out.below b7)
  have HI7 := hide (HI6.out.below b7)
  have HJ7 := hide (HJ6.out.below b7)
  clear hpt b7 HA6 HD6 HB6 HB36 HR6 HX6 HI6 HJ6 c0 c1 c2 c3 c4
  have HK : Hid (∀ V : World, Below w7.heap.size w7 V → V.cell? ⟨w.heap.size, 0, none⟩ = some (.int .i64 z) ∧ V.cell? ⟨w.heap.size, 1, none⟩ = some (.int .i64 y) ∧ V.cell? ⟨w.heap.size, 2, none⟩ = some (.int .i64 k) ∧ V.cell? ⟨w.heap.size, 3, none⟩ = some (.int .i64 s) ∧ V.cell? ⟨w.heap.size, 4, none⟩ = some (.slice a n c) ∧ V.cell? ⟨w2.heap.size, 0, none⟩ = some (.int .i64 z) ∧ V.cell? ⟨w2.heap.size, 1, none⟩ = some (.int .i64 y) ∧ V.cell? ⟨w2.heap.size, 2, none⟩ = some (.int .i64 k) ∧ V.cell? ⟨w2.heap.size, 3, none⟩ = some (.int .i64 s) ∧ V.cell? ⟨w2.heap.size, 4, none⟩ = some (.slice a2 n d2)) := fun V hV => by
    obtain ⟨q0, q1, q2, q3, q4⟩ := five_of (HR7.out.below hV)
    obtain ⟨r0, r1, r2, r3, r4⟩ := five_of (HJ7.out.below hV)
    exact ⟨q0, q1, q2, q3, q4, r0, r1, r2, r3, r4⟩
  have C1 : Hid (∀ V : World, Below w7.heap.size w7 V → Calls Try.prog 15 #[.slice a4 n4 d4, .slice a5 n5 d5] V fun e w' => e = .returned (.bool true) ∧ Below V.heap.size V w') := fun V hV => sameb_yes (HA7.out.below hV) (HD7.out.below hV) rfl
  have C2 : Hid (∀ V : World, Below w7.heap.size w7 V → Calls Try.prog 16 #[.agg #[.int .i64 z, .int .i64 y, .int .i64 k, .int .i64 s, .slice a2 n d2]] V fun e w' => e = .returned (.int .i64 E) ∧ Below V.heap.size V w') := fun V hV => by
    have := mfcheck_any z y k s a2 n d2 ts V (HI7.out.below hV)
    rwa [HE.out] at this
  have C3 : Hid (∀ V : World, Below w7.heap.size w7 V → Calls Try.prog 17 #[.agg #[.int .i64 z, .int .i64 y, .int .i64 k, .int .i64 s, .slice a n c]] V fun e w' => e = .returned (.int .i64 E) ∧ Below V.heap.size V w') := fun V hV => by
    have := dmcheck_any z y k s a n c ts V (HX7.out.below hV)
    rwa [HE.out] at this
  have C4 : Hid (∀ V : World, Below w7.heap.size w7 V → Calls Try.prog 18 #[.agg #[.int .i64 z, .int .i64 y, .int .i64 k, .int .i64 s, .slice a2 n d2]] V fun e w' => e = .returned (.int .i64 N) ∧ Below V.heap.size V w') := fun V hV => by
    have := mfblocks_any z y k s a2 n d2 ts V (HI7.out.below hV)
    rwa [HN.out] at this
  have C5 : Hid (∀ V : World, Below w7.heap.size w7 V → Calls Try.prog 19 #[.agg #[.int .i64 z, .int .i64 y, .int .i64 k, .int .i64 s, .slice a n c]] V fun e w' => e = .returned (.int .i64 N) ∧ Below V.heap.size V w') := fun V hV => by
    have := dmblocks_any z y k s a n c ts V (HX7.out.below hV)
    rwa [HN.out] at this
  have hr := (Below.refl w7.heap.size w7).drew
  have t0 : Hid True := trivial
  go_wp2_with fail
  go_region_held3 (fun V : World => V.cell? ⟨w.heap.size, 0, none⟩ = some (.int .i64 z) ∧ V.cell? ⟨w.heap.size, 1, none⟩ = some (.int .i64 y) ∧ V.cell? ⟨w.heap.size, 2, none⟩ = some (.int .i64 k) ∧ V.cell? ⟨w.heap.size, 3, none⟩ = some (.int .i64 s) ∧ V.cell? ⟨w.heap.size, 4, none⟩ = some (.slice a n c) ∧ V.cell? ⟨w2.heap.size, 0, none⟩ = some (.int .i64 z) ∧ V.cell? ⟨w2.heap.size, 1, none⟩ = some (.int .i64 y) ∧ V.cell? ⟨w2.heap.size, 2, none⟩ = some (.int .i64 k) ∧ V.cell? ⟨w2.heap.size, 3, none⟩ = some (.int .i64 s) ∧ V.cell? ⟨w2.heap.size, 4, none⟩ = some (.slice a2 n d2)) (exact HK.out _ hr)
    (first
    | (clear t0
       go_at_call 15
       refine (C1.out _ hr).mono ?_
       rintro e y1 ⟨rfl, hb⟩
       replace hr := hr.trans (hb.mono hr.size)
       clear hb
       have t1 : Hid True := trivial)
    | (clear t1
       go_at_call 16
       refine (C2.out _ hr).mono ?_
       rintro e y2 ⟨rfl, hb⟩
       replace hr := hr.trans (hb.mono hr.size)
       clear hb
       have t2 : Hid True := trivial)
    | (clear t2
       go_at_call 17
       refine (C3.out _ hr).mono ?_
       rintro e y3 ⟨rfl, hb⟩
       replace hr := hr.trans (hb.mono hr.size)
       clear hb
       have t3 : Hid True := trivial)
    | (clear t3
       go_at_call 18
       refine (C4.out _ hr).mono ?_
       rintro e y4 ⟨rfl, hb⟩
       replace hr := hr.trans (hb.mono hr.size)
       clear hb
       have t4 : Hid True := trivial)
    | (clear t4
       go_at_call 19
       refine (C5.out _ hr).mono ?_
       rintro e y5 ⟨rfl, hb⟩
       replace hr := hr.trans (hb.mono hr.size)
       clear hb
       have t5 : Hid True := trivial))
  all_goals
    have HRR := hide hr
    clear hr t5 C1 C2 C3 C4 C5 HK
    have hov := overb_all (HA7.out.below HRR.out) (by have h1 := HA7.out.len.1; have h2 := HPL.out; omega) _ (fun hz g o e => Nat.lt_of_lt_of_le (HAB.out hz g o e) (Nat.le_refl _))
    go_wp2_with fail
    refine hov.mono ?_
    rintro e w8 ⟨rfl, b8, _⟩
    have B38 := (HB37.out.trans (HRR.out.mono HB37.out.size)).trans b8
    have B08 := HB3X.out.trans (B38.mono HB3X.out.size)
    obtain ⟨c0, c1, c2, c3, c4⟩ := five_of (HR3.out.below B38)
    obtain ⟨j0, j1, j2, j3, j4⟩ := five_of (HJ3.out.below B38)
    have hsm := samem_any z y k s z y k s a2 a n d2 n c _ _ ts ts w8 (HI3.out.below B38) (HX0.out.below B08) HG.out
    rw [sameMV_self] at hsm
    have HB8 := hide B08
    clear hov b8 B38 B08 HRR
    go_wp2_with fail
    refine hsm.mono ?_
    rintro e w9 ⟨rfl, b9⟩
    have HB9 := hide (HB8.out.trans (b9.mono HB8.out.size))
    have hak := mawake_any w9
    clear hsm b9 c0 c1 c2 c3 c4 j0 j1 j2 j3 j4
    go_wp2_with fail
    refine hak.mono ?_
    rintro e w10 ⟨rfl, b10⟩
    have HB10 := hide (HB9.out.trans (b10.mono HB9.out.size))
    clear hak b10
    go_wp2
    go_ret
    exact ⟨rfl, HB10.out⟩
theorem mtells_any (z y k s : Int) (a : Option Addr) (n c : Nat) (ts : List Int) (b : Int) (w : World) (X : Intz 0 w (.slice a n c) ts) (hs : s ≤ 9223372036854775807) (hbig : n ≤ 17592186044416) :
    Calls Try.prog 3 #[.agg #[.int .i64 z, .int .i64 y, .int .i64 k, .int .i64 s, .slice a n c], .int .i64 b] w fun e w' => e = .returned (.bool true) ∧ Below w.heap.size w w' := by
  by_cases h : 100 < n ∧ n ≤ 10000
  · exact mtells_long z y k s a n c b w h
  · exact mtells_short z y k s a n c ts b w X hs hbig h
end Go.Proofs.Ytbebdeaeegcfkaa
