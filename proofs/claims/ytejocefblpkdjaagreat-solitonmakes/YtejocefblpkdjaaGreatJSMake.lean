/-
  Joined: SMake SDocr SFar SWords SAwake SMakes.
-/
import Derived.Test.YtejocefblpkdjaaGreatJSAdd
import Derived.Test.YtejocefblpkdjaaGreatJKDoc3
import Derived.Test.YtejocefblpkdjaaGreatJRMulB
import Derived.Test.YtejocefblpkdjaaGreatJRatB
import Derived.Test.YtejocefblpkdjaaGreatSKit
namespace Go.Proofs.YtejocefblpkdjaaGreat
open Go.RowKit
set_option maxRecDepth 100000 in
set_option maxHeartbeats 1000000 in
theorem tsmayFill_any (k s : Int) (w : World) :
    Calls Tryz.prog 34 #[.int .i64 k, .int .i64 s] w fun e w' => e = .returned (.bool (decide ((1 ≤ k ∧ k ≤ 65536) ∧ 1 ≤ s ∧ s ≤ 16777215))) ∧ Below w.heap.size w w' := by
  have hc := tswithin_any k 1 65536 w
  by_cases h1 : 1 ≤ k ∧ k ≤ 65536
  · rw [decide_eq_true h1] at hc
    have hc2 := fun w => tswithin_any s 1 16777215 w
    obtain ⟨r, hr⟩ : ∃ r, decide (1 ≤ s ∧ s ≤ 16777215) = r := ⟨_, rfl⟩
    have he : decide ((1 ≤ k ∧ k ≤ 65536) ∧ 1 ≤ s ∧ s ≤ 16777215) = r := by rw [← hr]; simp [h1]
    rw [he]
    rw [hr] at hc2
    have HC := hide hc2
    clear hr he hc2
    go_enter Tryz.func34, Tryz.ntmps34
    go_wp2_with fail
    refine hc.mono ?_
    rintro e w1 ⟨rfl, b1⟩
    have HB1 := hide b1
    have hc := HC.out w1
    clear b1 h1
    go_wp2_with fail
    refine hc.mono ?_
    rintro e w2 ⟨rfl, b2⟩
    have HB2 := hide (HB1.out.trans (b2.mono HB1.out.size))
    clear hc b2
    go_wp2
    go_ret
    exact ⟨rfl, HB2.out⟩
  · rw [decide_eq_false h1] at hc
    have he : decide ((1 ≤ k ∧ k ≤ 65536) ∧ 1 ≤ s ∧ s ≤ 16777215) = false := decide_eq_false (fun h => h1 h.1)
    rw [he]
    clear he h1
    go_enter Tryz.func34, Tryz.ntmps34
    go_wp2_with fail
    refine hc.mono ?_
    rintro e w1 ⟨rfl, b1⟩
    have HB1 := hide b1
    clear hc b1
    go_wp2
    go_ret
    exact ⟨rfl, HB1.out⟩
set_option maxRecDepth 100000 in
set_option maxHeartbeats 1000000 in
theorem tsIdeal_no (k s : Int) (h : ¬ ((1 ≤ k ∧ k ≤ 65536) ∧ 1 ≤ s ∧ s ≤ 16777215)) (w : World) :
    Calls Tryz.prog 12 #[.int .i64 k, .int .i64 s] w fun e w' => TblSaid (idealS k s) w e w' := by
  have hc := tsmayFill_any k s w
  rw [decide_eq_false h] at hc
  have hi : idealS k s = ([], 3) := if_neg h
  rw [hi]
  clear hi h
  go_enter Tryz.func12, Tryz.ntmps12
  go_wp2_with fail
  refine hc.mono ?_
  rintro e w1 ⟨rfl, b1⟩
  have HB1 := hide b1
  clear hc b1
  go_wp2
  go_ret2
  exact ⟨none, 0, 0, rfl, Intz.nil _ _, HB1.out⟩
theorem fill_one (k : Nat) (s : Int) (hk : 1 ≤ k ∧ k ≤ 65536) (hs : 1 ≤ s ∧ s ≤ 16777215) {S K : Nat} {w : World} (EK : Box w K (.cells #[.int .i64 (k : Int)] 3)) (ES : Box w S (.cells #[.func (.func 61) #[] #[.pointer (some ⟨K, 0, none⟩)]] 58)) :
    Calls Tryz.prog 35 #[.int .i64 (k : Int), .int .i64 s, .slice (some ⟨S, 0, none⟩) 1 1] w fun e w' => TblSaid (tblS (wts s (idQ k) k)) w e w' :=
  fill_any k hk s hs (idQ k) (fun W hb d hd => (tog_one d k (by omega) (by omega) (EK.below hb) (ES.below hb)).mono fun _ _ ⟨g, a, c, x, e, t, y, he, F, P, I, B⟩ => ⟨g, a, c, x, e, t, y, he, F, P, I.mono (by omega), B⟩) (fun j _ => id_nonneg (by omega) hs.1 j)
set_option maxRecDepth 100000 in
set_option maxHeartbeats 1000000 in
theorem tsIdeal_yes (k : Nat) (s : Int) (hk : 1 ≤ k ∧ k ≤ 65536) (hs : 1 ≤ s ∧ s ≤ 16777215) (w : World) :
    Calls Tryz.prog 12 #[.int .i64 (k : Int), .int .i64 s] w fun e w' => TblSaid (tblS (wts s (idQ k) k)) w e w' := by
  have hc := tsmayFill_any k s w
  rw [decide_eq_true (show (1 ≤ (k : Int) ∧ (k : Int) ≤ 65536) ∧ 1 ≤ s ∧ s ≤ 16777215 by omega)] at hc
  have HF := hide (fun (S K : Nat) (W : World) (EK : Box W K (.cells #[.int .i64 (k : Int)] 3)) (ES : Box W S (.cells #[.func (.func 61) #[] #[.pointer (some ⟨K, 0, none⟩)]] 58)) => fill_one k s hk hs EK ES)
  obtain ⟨r, hr⟩ : ∃ r, tblS (wts s (idQ k) k) = r := ⟨_, rfl⟩
  rw [hr] at HF ⊢
  clear hr hk hs
  go_enter Tryz.func12, Tryz.ntmps12
  go_wp2_with fail
  refine hc.mono ?_
  rintro e w1 ⟨rfl, b1⟩
  have HB1 := hide b1
  have hc := tsideal_any k w1
  clear b1
  go_wp2_with fail
  refine hc.mono ?_
  rintro e w2 ⟨K, rfl, EK, b2⟩
  have hq := below_new w2 (.cells #[.func (.func 61) #[] #[.pointer (some ⟨K, 0, none⟩)]] 58)
  have hf := HF.out w2.heap.size K _ (EK.below hq) (Box.new w2 _)
  have HB2 := hide ((HB1.out.trans (b2.mono HB1.out.size)).trans (hq.mono (HB1.out.trans (b2.mono HB1.out.size)).size))
  clear hc b2 EK hq HF HB1
  go_wp2_with fail
  refine hf.mono ?_
  rintro e w3 ⟨a, n, c, rfl, Z, b3⟩
  have HZ := hide (Z.mono HB2.out.size)
  have HB3 := hide (HB2.out.trans (b3.mono HB2.out.size))
  clear hf Z b3
  go_wp2
  go_ret2
  exact ⟨_, _, _, rfl, HZ.out, HB3.out⟩
theorem tsIdeal_any (k s : Int) (w : World) : Calls Tryz.prog 12 #[.int .i64 k, .int .i64 s] w fun e w' => TblSaid (idealS k s) w e w' := by
  by_cases h : (1 ≤ k ∧ k ≤ 65536) ∧ 1 ≤ s ∧ s ≤ 16777215
  · obtain ⟨n, rfl⟩ : ∃ n : Nat, k = n := ⟨k.toNat, by omega⟩
    rw [show idealS (n : Int) s = tblS (wts s (idQ n) n) from if_pos h]
    exact tsIdeal_yes n s (by omega) h.2 w
  · exact tsIdeal_no k s h w
def Yield.fi (k : Int) : Yield := .rel (fun v W => ∃ K : Nat, v = .func (.func 61) #[] #[.pointer (some ⟨K, 0, none⟩)] ∧ Box W K (.cells #[.int .i64 k] 3)) (fun _ _ _ hb ⟨K, e, E⟩ => ⟨K, e, E.below hb⟩)
theorem Yield.fi_elim {k : Int} {v : Value} {W : World} (P : Prop) (h : (Yield.fi k).At v W) (g : ∀ K : Nat, v = .func (.func 61) #[] #[.pointer (some ⟨K, 0, none⟩)] → Box W K (.cells #[.int .i64 k] 3) → P) : P := by
  obtain ⟨K, e, E⟩ := h; exact g K e E
def Yield.fs (m : Int) (o : Obj) : Yield := .rel (fun v W => ∃ M J : Nat, v = .func (.func 72) #[] #[.pointer (some ⟨M, 0, none⟩), .pointer (some ⟨J, 0, none⟩)] ∧ Box W M (.cells #[.int .i64 m] 3) ∧ Box W J o) (fun _ _ _ hb ⟨M, J, e, E, F⟩ => ⟨M, J, e, E.below hb, F.below hb⟩)
theorem Yield.fs_elim {m : Int} {o : Obj} {v : Value} {W : World} (P : Prop) (h : (Yield.fs m o).At v W) (g : ∀ M J : Nat, v = .func (.func 72) #[] #[.pointer (some ⟨M, 0, none⟩), .pointer (some ⟨J, 0, none⟩)] → Box W M (.cells #[.int .i64 m] 3) → Box W J o → P) : P := by
  obtain ⟨M, J, e, E, F⟩ := h; exact g M J e E F
def Yield.sh (k m : Int) (o : Obj) : Yield := .rel (fun v W => ∃ S K M J : Nat, v = .slice (some ⟨S, 0, none⟩) 2 2 ∧ Box W S (.cells #[.func (.func 61) #[] #[.pointer (some ⟨K, 0, none⟩)], .func (.func 72) #[] #[.pointer (some ⟨M, 0, none⟩), .pointer (some ⟨J, 0, none⟩)]] 58) ∧ Box W K (.cells #[.int .i64 k] 3) ∧ Box W M (.cells #[.int .i64 m] 3) ∧ Box W J o) (fun _ _ _ hb ⟨S, K, M, J, e, A, B, C, D⟩ => ⟨S, K, M, J, e, A.below hb, B.below hb, C.below hb, D.below hb⟩)
theorem Yield.sh_elim {k m : Int} {o : Obj} {v : Value} {W : World} (P : Prop) (h : (Yield.sh k m o).At v W) (g : ∀ S K M J : Nat, v = .slice (some ⟨S, 0, none⟩) 2 2 → Box W S (.cells #[.func (.func 61) #[] #[.pointer (some ⟨K, 0, none⟩)], .func (.func 72) #[] #[.pointer (some ⟨M, 0, none⟩), .pointer (some ⟨J, 0, none⟩)]] 58) → Box W K (.cells #[.int .i64 k] 3) → Box W M (.cells #[.int .i64 m] 3) → Box W J o → P) : P := by
  obtain ⟨S, K, M, J, e, A, B, C, D⟩ := h; exact g S K M J e A B C D
def Yield.tbl (lo : Nat) (p : List Int × Int) : Yield := .rel (fun v W => ∃ (a : Option Addr) (n c : Nat), v = .tuple #[.slice a n c, .int .i64 p.2] ∧ Intz lo W (.slice a n c) p.1) (fun _ _ _ hb ⟨a, n, c, e, Z⟩ => ⟨a, n, c, e, Z.below hb⟩)
theorem Yield.tbl_elim {lo : Nat} {p : List Int × Int} {v : Value} {W : World} (P : Prop) (h : (Yield.tbl lo p).At v W) (g : ∀ (a : Option Addr) (n c : Nat), v = .tuple #[.slice a n c, .int .i64 p.2] → Intz lo W (.slice a n c) p.1 → P) : P := by
  obtain ⟨a, n, c, e, Z⟩ := h; exact g a n c e Z
theorem rob_sign {b : Bool} {xs ds : List Int} (h : LowL b xs ds) (wx : Words xs) : sgn b (val xs) < 0 ↔ b = true := by
  have hv := val_nonneg wx
  cases b
  · simp [sgn]; omega
  · have hp := norm_pos wx h.1.1 (h.1.2 rfl)
    simp only [sgn, if_true]
    exact ⟨fun _ => by trivial, fun _ => by omega⟩
theorem fill_two (k : Nat) (s m : Int) (hk : 1 ≤ k ∧ k ≤ 65536) (hs : 1 ≤ s ∧ s ≤ 16777215) (hm : 1 ≤ m ∧ m ≤ k) {b : Bool} {a c : Option Addr} {ca cc : Nat} {xs ds : List Int} {w : World} (F1 : Fr 0 w a ca xs c cc ds) {q : Rat} (I1 : Is b xs ds q 4) (hq : 0 ≤ q) {S K M J : Nat}
    (ES : Box w S (.cells #[.func (.func 61) #[] #[.pointer (some ⟨K, 0, none⟩)], .func (.func 72) #[] #[.pointer (some ⟨M, 0, none⟩), .pointer (some ⟨J, 0, none⟩)]] 58)) (EK : Box w K (.cells #[.int .i64 (k : Int)] 3)) (EM : Box w M (.cells #[.int .i64 m] 3)) (EQ : Box w J (.cells #[.bool b, .slice a xs.length ca, .slice c ds.length cc] 27)) :
    Calls Tryz.prog 35 #[.int .i64 (k : Int), .int .i64 s, .slice (some ⟨S, 0, none⟩) 2 2] w fun e w' => TblSaid (tblS (wts s (robF k m q) k)) w e w' :=
  fill_any k hk s hs (robF k m q) (fun W hb d hd => (tog_two d k (by omega) (by omega) m (by omega) (EK.below hb) b (F1.below hb) I1 (EM.below hb) (EQ.below hb) (ES.below hb)).mono fun _ _ ⟨g, a, c, x, e, t, y, he, F, P, I, B⟩ => ⟨g, a, c, x, e, t, y, he, F, P, I.mono (by omega), B⟩) (fun j _ => rob_nonneg (by omega) hs.1 hm.1 hq j)
set_option maxRecDepth 100000 in
set_option maxHeartbeats 4000000 in
theorem tsRobust_form {a c : Option Addr} {ca cc : Nat} {xs ds : List Int} {w : World} (b : Bool) (F0 : Fr 0 w a ca xs c cc ds) (hl : xs.length ≤ 4 ∧ ds.length ≤ 4) (k s m : Int) (h : ¬ formR b xs ds = 0) :
    Calls Tryz.prog 14 #[.int .i64 k, .int .i64 s, .int .i64 m, .agg #[.bool b, .slice a xs.length ca, .slice c ds.length cc]] w fun e w' => TblSaid ([], 6) w e w' := by
  have h6 : formR b xs ds = 6 := by
    unfold formR at h ⊢
    split
    · rename_i g; rw [if_pos g] at h; exact absurd rfl h
    · rfl
  have HC := hide (fun (W : World) (hb : Below w.heap.size w W) => pcheck_any b (F0.below hb) (by omega) (by omega))
  rw [h6] at HC
  clear h h6
  have hB := Below.refl w.heap.size w
  go_enter Tryz.func14, Tryz.ntmps14
  have hs0 := Nat.le_refl w.heap.size
  have hq := below_new w (.cells #[.bool b, .slice a xs.length ca, .slice c ds.length cc] 27)
  replace F0 := F0.below hq
  have EQ := Box.put (w := w) (k := (w.heap.size)) (.cells #[.bool b, .slice a xs.length ca, .slice c ds.length cc] 27) rfl
  replace hs0 := Nat.le_trans hs0 hq.size
  replace hB := hB.trans (hq.mono hB.size)
  clear hq
  go_wp2_with fail
  obtain ⟨u1, hname⟩ := nm hB
  rw [hname] at hs0 hB F0 EQ ⊢
  have zh1 := hB.size
  have zs1 := hs0
  clear hname hs0
  refine (HC.out _ hB).mono ?_
  rintro e w2 ⟨rfl, hb⟩
  replace F0 := F0.below hb
  replace EQ := EQ.below hb
  replace hB := hB.trans (hb.mono hB.size)
  have zz2 := hb.size
  have zh2 := hB.size
  clear hb
  go_wp2
  go_ret2
  exact ⟨none, 0, 0, rfl, Intz.nil _ _, hB⟩
set_option maxRecDepth 100000 in
set_option maxHeartbeats 4000000 in
theorem tsRobust_range {a c : Option Addr} {ca cc : Nat} {xs ds : List Int} {w : World} (b : Bool) (F0 : Fr 0 w a ca xs c cc ds) (hl : xs.length ≤ 4 ∧ ds.length ≤ 4) (k s m : Int) (h : formR b xs ds = 0) (h1 : ¬ ((1 ≤ k ∧ k ≤ 65536) ∧ 1 ≤ s ∧ s ≤ 16777215)) :
    Calls Tryz.prog 14 #[.int .i64 k, .int .i64 s, .int .i64 m, .agg #[.bool b, .slice a xs.length ca, .slice c ds.length cc]] w fun e w' => TblSaid ([], 3) w e w' := by
  have HC := hide (fun (W : World) (hb : Below w.heap.size w W) => pcheck_any b (F0.below hb) (by omega) (by omega))
  rw [h] at HC
  clear h
  have hm := fun W => tsmayFill_any k s W
  rw [decide_eq_false h1] at hm
  have HM := hide hm
  clear hm h1
  have hB := Below.refl w.heap.size w
  go_enter Tryz.func14, Tryz.ntmps14
  have hs0 := Nat.le_refl w.heap.size
  have hq := below_new w (.cells #[.bool b, .slice a xs.length ca, .slice c ds.length cc] 27)
  replace F0 := F0.below hq
  have EQ := Box.put (w := w) (k := (w.heap.size)) (.cells #[.bool b, .slice a xs.length ca, .slice c ds.length cc] 27) rfl
  replace hs0 := Nat.le_trans hs0 hq.size
  replace hB := hB.trans (hq.mono hB.size)
  clear hq
  go_wp2_with fail
  obtain ⟨u1, hname⟩ := nm hB
  rw [hname] at hs0 hB F0 EQ ⊢
  have zh1 := hB.size
  have zs1 := hs0
  clear hname hs0
  refine (HC.out _ hB).mono ?_
  rintro e w2 ⟨rfl, hb⟩
  replace F0 := F0.below hb
  replace EQ := EQ.below hb
  replace hB := hB.trans (hb.mono hB.size)
  have zz2 := hb.size
  have zh2 := hB.size
  clear hb
  go_wp2_with fail
  refine (HM.out _).mono ?_
  rintro e w3 ⟨rfl, hb⟩
  replace F0 := F0.below hb
  replace EQ := EQ.below hb
  replace hB := hB.trans (hb.mono hB.size)
  have zz3 := hb.size
  have zh3 := hB.size
  clear hb
  go_wp2
  go_ret2
  exact ⟨none, 0, 0, rfl, Intz.nil _ _, hB⟩
set_option maxRecDepth 100000 in
set_option maxHeartbeats 4000000 in
theorem tsRobust_spike {a c : Option Addr} {ca cc : Nat} {xs ds : List Int} {w : World} (b : Bool) (F0 : Fr 0 w a ca xs c cc ds) (hl : xs.length ≤ 4 ∧ ds.length ≤ 4) (k s m : Int) (h : formR b xs ds = 0) (h1 : (1 ≤ k ∧ k ≤ 65536) ∧ 1 ≤ s ∧ s ≤ 16777215) (h2 : ¬ (1 ≤ m ∧ m ≤ k)) :
    Calls Tryz.prog 14 #[.int .i64 k, .int .i64 s, .int .i64 m, .agg #[.bool b, .slice a xs.length ca, .slice c ds.length cc]] w fun e w' => TblSaid ([], 3) w e w' := by
  have HC := hide (fun (W : World) (hb : Below w.heap.size w W) => pcheck_any b (F0.below hb) (by omega) (by omega))
  rw [h] at HC
  clear h
  have hm := fun W => tsmayFill_any k s W
  rw [decide_eq_true h1] at hm
  have HM := hide hm
  clear hm
  have hw := fun W => tswithin_any m 1 k W
  rw [decide_eq_false h2] at hw
  have HW := hide hw
  clear hw h1 h2
  have hB := Below.refl w.heap.size w
  go_enter Tryz.func14, Tryz.ntmps14
  have hs0 := Nat.le_refl w.heap.size
  have hq := below_new w (.cells #[.bool b, .slice a xs.length ca, .slice c ds.length cc] 27)
  replace F0 := F0.below hq
  have EQ := Box.put (w := w) (k := (w.heap.size)) (.cells #[.bool b, .slice a xs.length ca, .slice c ds.length cc] 27) rfl
  replace hs0 := Nat.le_trans hs0 hq.size
  replace hB := hB.trans (hq.mono hB.size)
  clear hq
  go_wp2_with fail
  obtain ⟨u1, hname⟩ := nm hB
  rw [hname] at hs0 hB F0 EQ ⊢
  have zh1 := hB.size
  have zs1 := hs0
  clear hname hs0
  refine (HC.out _ hB).mono ?_
  rintro e w2 ⟨rfl, hb⟩
  replace F0 := F0.below hb
  replace EQ := EQ.below hb
  replace hB := hB.trans (hb.mono hB.size)
  have zz2 := hb.size
  have zh2 := hB.size
  clear hb
  go_wp2_with fail
  refine (HM.out _).mono ?_
  rintro e w3 ⟨rfl, hb⟩
  replace F0 := F0.below hb
  replace EQ := EQ.below hb
  replace hB := hB.trans (hb.mono hB.size)
  have zz3 := hb.size
  have zh3 := hB.size
  clear hb
  go_wp2_with fail
  refine (HW.out _).mono ?_
  rintro e w4 ⟨rfl, hb⟩
  replace F0 := F0.below hb
  replace EQ := EQ.below hb
  replace hB := hB.trans (hb.mono hB.size)
  have zz4 := hb.size
  have zh4 := hB.size
  clear hb
  go_wp2
  go_ret2
  exact ⟨none, 0, 0, rfl, Intz.nil _ _, hB⟩
set_option maxRecDepth 100000 in
set_option maxHeartbeats 4000000 in
theorem tsRobust_sign {a c : Option Addr} {ca cc : Nat} {xs ds : List Int} {w : World} (b : Bool) (F0 : Fr 0 w a ca xs c cc ds) (hl : xs.length ≤ 4 ∧ ds.length ≤ 4) (k s m : Int) (h : formR b xs ds = 0) (h1 : (1 ≤ k ∧ k ≤ 65536) ∧ 1 ≤ s ∧ s ≤ 16777215) (h2 : 1 ≤ m ∧ m ≤ k) (h3 : b = true) :
    Calls Tryz.prog 14 #[.int .i64 k, .int .i64 s, .int .i64 m, .agg #[.bool b, .slice a xs.length ca, .slice c ds.length cc]] w fun e w' => TblSaid ([], 3) w e w' := by
  have hlow := (formR_low F0.up.words F0.down.words).1 h
  have hneg := (rob_sign hlow F0.up.words).2 h3
  have HS := hide (fun (W : World) (hb : Below w.heap.size w W) => ssign_any b (F0.up.below hb) (by omega))
  rw [cmpI_lt hneg] at HS
  clear hneg hlow h3
  have HC := hide (fun (W : World) (hb : Below w.heap.size w W) => pcheck_any b (F0.below hb) (by omega) (by omega))
  rw [h] at HC
  clear h
  have hm := fun W => tsmayFill_any k s W
  rw [decide_eq_true h1] at hm
  have HM := hide hm
  clear hm
  have hw := fun W => tswithin_any m 1 k W
  rw [decide_eq_true h2] at hw
  have HW := hide hw
  clear hw
  clear h1 h2
  have hB := Below.refl w.heap.size w
  go_enter Tryz.func14, Tryz.ntmps14
  have hs0 := Nat.le_refl w.heap.size
  have hq := below_new w (.cells #[.bool b, .slice a xs.length ca, .slice c ds.length cc] 27)
  replace F0 := F0.below hq
  have EQ := Box.put (w := w) (k := (w.heap.size)) (.cells #[.bool b, .slice a xs.length ca, .slice c ds.length cc] 27) rfl
  replace hs0 := Nat.le_trans hs0 hq.size
  replace hB := hB.trans (hq.mono hB.size)
  clear hq
  go_wp2_with fail
  obtain ⟨u1, hname⟩ := nm hB
  rw [hname] at hs0 hB F0 EQ ⊢
  have zh1 := hB.size
  have zs1 := hs0
  clear hname hs0
  refine (HC.out _ hB).mono ?_
  rintro e w2 ⟨rfl, hb⟩
  replace F0 := F0.below hb
  replace EQ := EQ.below hb
  replace hB := hB.trans (hb.mono hB.size)
  have zz2 := hb.size
  have zh2 := hB.size
  clear hb
  go_wp2_with fail
  refine (HM.out _).mono ?_
  rintro e w3 ⟨rfl, hb⟩
  replace F0 := F0.below hb
  replace EQ := EQ.below hb
  replace hB := hB.trans (hb.mono hB.size)
  have zz3 := hb.size
  have zh3 := hB.size
  clear hb
  go_wp2_with fail
  refine (HW.out _).mono ?_
  rintro e w4 ⟨rfl, hb⟩
  replace F0 := F0.below hb
  replace EQ := EQ.below hb
  replace hB := hB.trans (hb.mono hB.size)
  have zz4 := hb.size
  have zh4 := hB.size
  clear hb
  obtain ⟨k0, k1, k2, f0, f1, f2⟩ := EQ.three
  go_wp2_with fail
  clear k0 k1 k2 f0 f1 f2
  refine (HS.out _ hB).mono ?_
  rintro e w5 ⟨rfl, hb⟩
  replace F0 := F0.below hb
  replace EQ := EQ.below hb
  replace hB := hB.trans (hb.mono hB.size)
  have zz5 := hb.size
  have zh5 := hB.size
  clear hb
  go_wp2
  go_ret2
  exact ⟨none, 0, 0, rfl, Intz.nil _ _, hB⟩
set_option maxRecDepth 100000 in
set_option maxHeartbeats 4000000 in
theorem tsRobust_ok {a c : Option Addr} {ca cc : Nat} {xs ds : List Int} {w : World} (b : Bool) (F0 : Fr 0 w a ca xs c cc ds) (hl : xs.length ≤ 4 ∧ ds.length ≤ 4) (k : Nat) (s m : Int) (h : formR b xs ds = 0) (h1 : (1 ≤ (k : Int) ∧ (k : Int) ≤ 65536) ∧ 1 ≤ s ∧ s ≤ 16777215) (h2 : 1 ≤ m ∧ m ≤ k) (h3 : b = false) :
    Calls Tryz.prog 14 #[.int .i64 (k : Int), .int .i64 s, .int .i64 m, .agg #[.bool b, .slice a xs.length ca, .slice c ds.length cc]] w fun e w' => TblSaid (tblS (wts s (robF k m (ratL b xs ds)) k)) w e w' := by
  have hlow := (formR_low F0.up.words F0.down.words).1 h
  have hpos : ¬ sgn b (val xs) < 0 := fun hh => by rw [h3] at hh; have := val_nonneg F0.up.words; simp [sgn] at hh; omega
  have HS := hide (fun (W : World) (hb : Below w.heap.size w W) => ssign_any b (F0.up.below hb) (by omega))
  obtain ⟨z, hz, hz0⟩ : ∃ z, cmpI (sgn b (val xs)) 0 = z ∧ 0 ≤ z := ⟨_, rfl, by unfold cmpI; split <;> (try split) <;> omega⟩
  rw [hz] at HS
  have hzf : decide (z < 0) = false := decide_eq_false (by omega)
  clear hz
  have I1 : Is b xs ds (ratL b xs ds) 4 := ⟨hlow, rfl, hl.1, hl.2⟩
  have hq : 0 ≤ ratL b xs ds := by rw [h3]; exact ratL_nonneg F0.up.words hlow.2.2.1
  have HF := hide (fun (W : World) (S K M J : Nat) (F : Fr 0 W a ca xs c cc ds) => fill_two k s m (by omega) h1.2 h2 F I1 hq (S := S) (K := K) (M := M) (J := J))
  obtain ⟨r, hr⟩ : ∃ r, tblS (wts s (robF k m (ratL b xs ds)) k) = r := ⟨_, rfl⟩
  rw [hr] at HF ⊢
  clear hr I1 hq hpos hlow h3
  have HC := hide (fun (W : World) (hb : Below w.heap.size w W) => pcheck_any b (F0.below hb) (by omega) (by omega))
  rw [h] at HC
  clear h
  have hm := fun W => tsmayFill_any k s W
  rw [decide_eq_true h1] at hm
  have HM := hide hm
  clear hm
  have hw := fun W => tswithin_any m 1 k W
  rw [decide_eq_true h2] at hw
  have HW := hide hw
  clear hw
  clear h1 h2
  have hB := Below.refl w.heap.size w
  go_enter Tryz.func14, Tryz.ntmps14
  have hs0 := Nat.le_refl w.heap.size
  have hq := below_new w (.cells #[.bool b, .slice a xs.length ca, .slice c ds.length cc] 27)
  replace F0 := F0.below hq
  have EQ := Box.put (w := w) (k := (w.heap.size)) (.cells #[.bool b, .slice a xs.length ca, .slice c ds.length cc] 27) rfl
  replace hs0 := Nat.le_trans hs0 hq.size
  replace hB := hB.trans (hq.mono hB.size)
  clear hq
  go_wp2_with fail
  obtain ⟨u1, hname⟩ := nm hB
  rw [hname] at hs0 hB F0 EQ ⊢
  have zh1 := hB.size
  have zs1 := hs0
  clear hname hs0
  refine (HC.out _ hB).mono ?_
  rintro e w2 ⟨rfl, hb⟩
  replace F0 := F0.below hb
  replace EQ := EQ.below hb
  replace hB := hB.trans (hb.mono hB.size)
  have zz2 := hb.size
  have zh2 := hB.size
  clear hb
  go_wp2_with fail
  refine (HM.out _).mono ?_
  rintro e w3 ⟨rfl, hb⟩
  replace F0 := F0.below hb
  replace EQ := EQ.below hb
  replace hB := hB.trans (hb.mono hB.size)
  have zz3 := hb.size
  have zh3 := hB.size
  clear hb
  go_wp2_with fail
  refine (HW.out _).mono ?_
  rintro e w4 ⟨rfl, hb⟩
  replace F0 := F0.below hb
  replace EQ := EQ.below hb
  replace hB := hB.trans (hb.mono hB.size)
  have zz4 := hb.size
  have zh4 := hB.size
  clear hb
  obtain ⟨k0, k1, k2, f0, f1, f2⟩ := EQ.three
  go_wp2_with fail
  clear k0 k1 k2 f0 f1 f2
  refine (HS.out _ hB).mono ?_
  rintro e w5 ⟨rfl, hb⟩
  replace F0 := F0.below hb
  replace EQ := EQ.below hb
  replace hB := hB.trans (hb.mono hB.size)
  have zz5 := hb.size
  have zh5 := hB.size
  clear hb
  obtain ⟨k0, k1, k2, f0, f1, f2⟩ := EQ.three
  go_wp2_with fail
  clear k0 k1 k2 f0 f1 f2
  replace F0 := F0.drew
  have qEQ := EQ.lt
  replace EQ := EQ.drew
  refine wp_yields 9 [.is (.int .i64 (k : Int)), .is (.int .i64 s), .is (.int .i64 (k : Int)), (Yield.fi k), .is (.int .i64 m), .is (.agg #[.bool b, .slice a xs.length ca, .slice c ds.length cc]), (Yield.fs m (.cells #[.bool b, .slice a xs.length ca, .slice c ds.length cc] 27)), (Yield.sh k m (.cells #[.bool b, .slice a xs.length ca, .slice c ds.length cc] 27)), (Yield.tbl w5.heap.size r)] (by kernel_rfl) (by kernel_rfl) (lt_cons ?_ (lt_cons ?_ (lt_cons ?_ (lt_cons ?_ (lt_cons ?_ (lt_cons ?_ (lt_cons ?_ (lt_cons ?_ (lt_cons ?_ lt_nil))))))))) ?_
  case refine_1 =>
    refine OpDoes.mk rfl ?_
    intro vs V hV hd K hK
    have d0 : vs 0 = .int .i64 (k : Int) := hd 0 (by decide) (by kernel_rfl)
    have d1 : vs 1 = .int .i64 s := hd 1 (by decide) (by kernel_rfl)
    have hh := fun (P : Prop) => Yield.sh_elim P (show ((Yield.sh k m (.cells #[.bool b, .slice a xs.length ca, .slice c ds.length cc] 27)) : Yield).At (vs 7) V from hd 7 (by decide) (by kernel_rfl))
    refine hh _ ?_
    intro S3 KK3 MM3 JJ3 d7 A3 B3 C3 D3
    clear hh
    simp only [laidIn, lz1, lz2, lz3, lz4, lz5, lz6, if_true, Act.put, lz7, lz8, lz9] at hK ⊢
    simp only [d0, d1, d7] at hK ⊢
    go_simp
    go_at_call 35
    refine (HF.out _ _ _ _ _ (F0.below hV) A3 B3 C3 D3).mono ?_
    rintro e V' ⟨a4, n4, c4, rfl, Z4, hb⟩
    exact hK.out _ _ hb ⟨_, _, _, rfl, Z4.mono hV.size⟩ (not_fresh rfl)
  case refine_2 =>
    refine OpDoes.mk rfl ?_
    intro vs V hV hd K hK
    have hh := fun (P : Prop) => Yield.fi_elim P (show ((Yield.fi k) : Yield).At (vs 3) V from hd 3 (by decide) (by kernel_rfl))
    refine hh _ ?_
    intro K1 d3 E11
    clear hh
    have hh := fun (P : Prop) => Yield.fs_elim P (show ((Yield.fs m (.cells #[.bool b, .slice a xs.length ca, .slice c ds.length cc] 27)) : Yield).At (vs 6) V from hd 6 (by decide) (by kernel_rfl))
    refine hh _ ?_
    intro M2 J2 d6 E22 E32
    clear hh
    simp only [laidIn, lz1, lz2, lz3, lz4, lz5, lz6, if_true, Act.put, lz7, lz8, lz9] at hK ⊢
    simp only [d3, d6] at hK ⊢
    go_simp
    have hbn := below_new V (.cells #[.func (.func 61) #[] #[.pointer (some ⟨K1, 0, none⟩)], .func (.func 72) #[] #[.pointer (some ⟨M2, 0, none⟩), .pointer (some ⟨J2, 0, none⟩)]] 58)
    exact hK.out _ _ ((Below.refl _ _).a1 _) ⟨_, _, _, _, rfl, Box.new V _, E11.below hbn, E22.below hbn, E32.below hbn⟩ (not_fresh rfl)
  case refine_3 =>
    refine OpDoes.mk rfl ?_
    intro vs V hV hd K hK
    have d4 : vs 4 = .int .i64 m := hd 4 (by decide) (by kernel_rfl)
    have d5 : vs 5 = .agg #[.bool b, .slice a xs.length ca, .slice c ds.length cc] := hd 5 (by decide) (by kernel_rfl)
    simp only [laidIn, lz1, lz2, lz3, lz4, lz5, lz6, if_true, Act.put, lz7, lz8, lz9] at hK ⊢
    simp only [d4, d5] at hK ⊢
    go_simp
    go_at_call 44
    refine (tsspiked_any m b a c ca cc xs ds _).mono ?_
    rintro e V' ⟨M2, J2, rfl, E22, E32, hb⟩
    exact hK.out _ _ hb ⟨_, _, rfl, E22, E32⟩ (not_fresh rfl)
  case refine_4 =>
    refine OpDoes.mk rfl ?_
    intro vs V hV hd K hK
    have hcc := (EQ.below hV).three
    have k0 := hcc.1
    have k1 := hcc.2.1
    have k2 := hcc.2.2.1
    clear hcc
    simp only [laidIn, lz1, lz2, lz3, lz4, lz5, lz6, if_true, Act.put, lz7, lz8, lz9] at hK ⊢
    go_simp
    exact hK.out _ _ (Below.refl _ _) rfl (not_fresh rfl)
  case refine_5 =>
    refine OpDoes.mk rfl ?_
    intro vs V hV hd K hK
    simp only [laidIn, lz1, lz2, lz3, lz4, lz5, lz6, if_true, Act.put, lz7, lz8, lz9] at hK ⊢
    go_simp
    exact hK.out _ _ (Below.refl _ _) rfl (not_fresh rfl)
  case refine_6 =>
    refine OpDoes.mk rfl ?_
    intro vs V hV hd K hK
    have d2 : vs 2 = .int .i64 (k : Int) := hd 2 (by decide) (by kernel_rfl)
    simp only [laidIn, lz1, lz2, lz3, lz4, lz5, lz6, if_true, Act.put, lz7, lz8, lz9] at hK ⊢
    simp only [d2] at hK ⊢
    go_simp
    go_at_call 36
    refine (tsideal_any k _).mono ?_
    rintro e V' ⟨K1, rfl, E11, hb⟩
    exact hK.out _ _ hb ⟨_, rfl, E11⟩ (not_fresh rfl)
  case refine_7 =>
    refine OpDoes.mk rfl ?_
    intro vs V hV hd K hK
    simp only [laidIn, lz1, lz2, lz3, lz4, lz5, lz6, if_true, Act.put, lz7, lz8, lz9] at hK ⊢
    go_simp
    exact hK.out _ _ (Below.refl _ _) rfl (not_fresh rfl)
  case refine_8 =>
    refine OpDoes.mk rfl ?_
    intro vs V hV hd K hK
    simp only [laidIn, lz1, lz2, lz3, lz4, lz5, lz6, if_true, Act.put, lz7, lz8, lz9] at hK ⊢
    go_simp
    exact hK.out _ _ (Below.refl _ _) rfl (not_fresh rfl)
  case refine_9 =>
    refine OpDoes.mk rfl ?_
    intro vs V hV hd K hK
    simp only [laidIn, lz1, lz2, lz4, lz5, lz6, if_true, Act.put, lz7, lz8, lz9] at hK ⊢
    go_simp
    exact hK.out _ _ (Below.refl _ _) rfl (not_fresh rfl)
  case refine_10 =>
    intro vs Y1 hV hR hne fuel
    have d0 : vs 0 = .int .i64 (k : Int) := hR 0 (by decide)
    have d1 : vs 1 = .int .i64 s := hR 1 (by decide)
    have d2 : vs 2 = .int .i64 (k : Int) := hR 2 (by decide)
    have hh := fun (P : Prop) => Yield.fi_elim P (show ((Yield.fi k) : Yield).At (vs 3) Y1 from hR 3 (by decide))
    refine hh _ ?_
    intro K1 d3 E11
    clear hh
    have d4 : vs 4 = .int .i64 m := hR 4 (by decide)
    have d5 : vs 5 = .agg #[.bool b, .slice a xs.length ca, .slice c ds.length cc] := hR 5 (by decide)
    have hh := fun (P : Prop) => Yield.fs_elim P (show ((Yield.fs m (.cells #[.bool b, .slice a xs.length ca, .slice c ds.length cc] 27)) : Yield).At (vs 6) Y1 from hR 6 (by decide))
    refine hh _ ?_
    intro M2 J2 d6 E22 E32
    clear hh
    have hh := fun (P : Prop) => Yield.sh_elim P (show ((Yield.sh k m (.cells #[.bool b, .slice a xs.length ca, .slice c ds.length cc] 27)) : Yield).At (vs 7) Y1 from hR 7 (by decide))
    refine hh _ ?_
    intro S3 KK3 MM3 JJ3 d7 A3 B3 C3 D3
    clear hh
    have hh := fun (P : Prop) => Yield.tbl_elim P (show ((Yield.tbl w5.heap.size r) : Yield).At (vs 8) Y1 from hR 8 (by decide))
    refine hh _ ?_
    intro a4 n4 c4 d8 Z4
    clear hh
    replace F0 := F0.below hV
    replace EQ := EQ.below hV
    have hr := hV
    simp only [laidIn, lz4, lz5, lz6, if_true, Act.put, lz7, lz8, lz9]
    simp only [d0, d1, d2, d3, d4, d5, d6, d7, d8]
    clear hR hne hV d0 d1 d2 d3 d4 d5 d6 d7 d8
    clear vs
    show wpAny _ _ _ _ (fuel + 4) _ _ _
    apply mp_of
    case f =>
      intro hgoal
      refine wpAny_all (rs := [9, 10]) (by kernel_rfl) (by simp) (fun i hi => ?_)
      rcases (show i = 9 ∨ i = 10 by simpa using hi) with rfl | rfl
      · clear hi
        refine wpOp_step rfl (fun K hK => ?_)
        simp only [lz1, lz2, lz3]
        rw [if_pos (by rfl)]
        go_simp
        refine hK _ _ ?_
        clear hK
        refine wpAny_all (rs := [10]) (by kernel_rfl) (by simp) (fun i hi => ?_)
        obtain rfl : i = 10 := by simpa using hi
        clear hi
        refine wpOp_step rfl (fun K hK => ?_)
        simp only [lz1, lz2, lz3]
        rw [if_pos (by rfl)]
        go_simp
        refine hK _ _ ?_
        clear hK
        refine wpAny_all (rs := [11]) (by kernel_rfl) (by simp) (fun i hi => ?_)
        obtain rfl : i = 11 := by simpa using hi
        clear hi
        refine wpOp_step rfl (fun K hK => ?_)
        simp only [lz1, lz2, lz3]
        rw [if_pos (by rfl)]
        go_simp
        refine hK _ _ ?_
        clear hK
        refine wpAny_all (rs := [12]) (by kernel_rfl) (by simp) (fun i hi => ?_)
        obtain rfl : i = 12 := by simpa using hi
        clear hi
        refine wpOp_step rfl (fun K hK => ?_)
        simp only [lz1, lz2, lz3]
        rw [if_pos (by rfl)]
        go_simp
        refine hK _ _ ?_
        clear hK
        refine wpAny_done (by kernel_rfl) ?_ _
        exact hgoal
      · clear hi
        refine wpOp_step rfl (fun K hK => ?_)
        simp only [lz1, lz2, lz3]
        rw [if_pos (by rfl)]
        go_simp
        refine hK _ _ ?_
        clear hK
        refine wpAny_all (rs := [9]) (by kernel_rfl) (by simp) (fun i hi => ?_)
        obtain rfl : i = 9 := by simpa using hi
        clear hi
        refine wpOp_step rfl (fun K hK => ?_)
        simp only [lz1, lz2, lz3]
        rw [if_pos (by rfl)]
        go_simp
        refine hK _ _ ?_
        clear hK
        refine wpAny_all (rs := [11]) (by kernel_rfl) (by simp) (fun i hi => ?_)
        obtain rfl : i = 11 := by simpa using hi
        clear hi
        refine wpOp_step rfl (fun K hK => ?_)
        simp only [lz1, lz2, lz3]
        rw [if_pos (by rfl)]
        go_simp
        refine hK _ _ ?_
        clear hK
        refine wpAny_all (rs := [12]) (by kernel_rfl) (by simp) (fun i hi => ?_)
        obtain rfl : i = 12 := by simpa using hi
        clear hi
        refine wpOp_step rfl (fun K hK => ?_)
        simp only [lz1, lz2, lz3]
        rw [if_pos (by rfl)]
        go_simp
        refine hK _ _ ?_
        clear hK
        refine wpAny_done (by kernel_rfl) ?_ _
        exact hgoal
    case p =>
      replace hB := hB.trans ((Below.trans (Below.drew (Below.refl w5.heap.size w5)) hr).mono hB.size)
      have zz5_0 := hr.size
      have zi1 := hB.size
      clear hr
      go_wp2
      go_ret2
      exact ⟨_, _, _, rfl, Z4.mono (by omega), hB⟩
set_option maxRecDepth 100000 in
set_option maxHeartbeats 4000000 in
theorem dsRobust_form {a c : Option Addr} {ca cc : Nat} {xs ds : List Int} {w : World} (b : Bool) (F1 : Fr 0 w a ca xs c cc ds) (hl : xs.length ≤ 4 ∧ ds.length ≤ 4) (k s m : Int) (h : ¬ formR b xs ds = 0) :
    Calls Tryz.prog 15 #[.int .i64 k, .int .i64 s, .int .i64 m, .agg #[.bool b, .slice a xs.length ca, .slice c ds.length cc]] w fun e w' => TblSaid ([], 6) w e w' := by
  have h6 : formR b xs ds = 6 := by
    unfold formR at h ⊢
    split
    · rename_i g; rw [if_pos g] at h; exact absurd rfl h
    · rfl
  have HC := hide (fun (W : World) (hb : Below w.heap.size w W) => kcheck_any b (F1.below hb) (by omega) (by omega))
  rw [h6] at HC
  clear h h6
  have hB := Below.refl w.heap.size w
  go_enter Tryz.func15, Tryz.ntmps15
  have hs0 := Nat.le_refl w.heap.size
  have hq := below_new w (.cells #[.bool b, .slice a xs.length ca, .slice c ds.length cc] 27)
  replace F1 := F1.below hq
  have EQ := Box.put (w := w) (k := (w.heap.size)) (.cells #[.bool b, .slice a xs.length ca, .slice c ds.length cc] 27) rfl
  replace hs0 := Nat.le_trans hs0 hq.size
  replace hB := hB.trans (hq.mono hB.size)
  clear hq
  go_wp2_with fail
  obtain ⟨u1, hname⟩ := nm hB
  rw [hname] at hs0 hB F1 EQ ⊢
  have zh1 := hB.size
  have zs1 := hs0
  clear hname hs0
  refine (HC.out _ hB).mono ?_
  rintro e w2 ⟨rfl, hb⟩
  replace F1 := F1.below hb
  replace EQ := EQ.below hb
  replace hB := hB.trans (hb.mono hB.size)
  have zz2 := hb.size
  have zh2 := hB.size
  clear hb
  go_wp2
  go_ret2
  exact ⟨none, 0, 0, rfl, Intz.nil _ _, hB⟩
set_option maxRecDepth 100000 in
set_option maxHeartbeats 4000000 in
theorem dsRobust_range {a c : Option Addr} {ca cc : Nat} {xs ds : List Int} {w : World} (b : Bool) (F1 : Fr 0 w a ca xs c cc ds) (hl : xs.length ≤ 4 ∧ ds.length ≤ 4) (k s m : Int) (h : formR b xs ds = 0) (h1 : ¬ ((1 ≤ k ∧ k ≤ 65536) ∧ 1 ≤ s ∧ s ≤ 16777215)) :
    Calls Tryz.prog 15 #[.int .i64 k, .int .i64 s, .int .i64 m, .agg #[.bool b, .slice a xs.length ca, .slice c ds.length cc]] w fun e w' => TblSaid ([], 3) w e w' := by
  have HC := hide (fun (W : World) (hb : Below w.heap.size w W) => kcheck_any b (F1.below hb) (by omega) (by omega))
  rw [h] at HC
  clear h
  have hm := fun W => dswithin_any k s W
  rw [decide_eq_false h1] at hm
  have HM := hide hm
  clear hm
  clear h1
  have hB := Below.refl w.heap.size w
  go_enter Tryz.func15, Tryz.ntmps15
  have hs0 := Nat.le_refl w.heap.size
  have hq := below_new w (.cells #[.bool b, .slice a xs.length ca, .slice c ds.length cc] 27)
  replace F1 := F1.below hq
  have EQ := Box.put (w := w) (k := (w.heap.size)) (.cells #[.bool b, .slice a xs.length ca, .slice c ds.length cc] 27) rfl
  replace hs0 := Nat.le_trans hs0 hq.size
  replace hB := hB.trans (hq.mono hB.size)
  clear hq
  go_wp2_with fail
  obtain ⟨u1, hname⟩ := nm hB
  rw [hname] at hs0 hB F1 EQ ⊢
  have zh1 := hB.size
  have zs1 := hs0
  clear hname hs0
  refine (HC.out _ hB).mono ?_
  rintro e w2 ⟨rfl, hb⟩
  replace F1 := F1.below hb
  replace EQ := EQ.below hb
  replace hB := hB.trans (hb.mono hB.size)
  have zz2 := hb.size
  have zh2 := hB.size
  clear hb
  obtain ⟨k0, k1, k2, f0, f1, f2⟩ := EQ.three
  go_wp2_with fail
  clear k0 k1 k2 f0 f1 f2
  refine (HM.out _).mono ?_
  rintro e w3 ⟨rfl, hb⟩
  replace F1 := F1.below hb
  replace EQ := EQ.below hb
  replace hB := hB.trans (hb.mono hB.size)
  have zz3 := hb.size
  have zh3 := hB.size
  clear hb
  go_wp2
  go_ret2
  exact ⟨none, 0, 0, rfl, Intz.nil _ _, hB⟩
set_option maxRecDepth 100000 in
set_option maxHeartbeats 4000000 in
theorem dsRobust_low {a c : Option Addr} {ca cc : Nat} {xs ds : List Int} {w : World} (b : Bool) (F1 : Fr 0 w a ca xs c cc ds) (hl : xs.length ≤ 4 ∧ ds.length ≤ 4) (k s m : Int) (h : formR b xs ds = 0) (h1 : (1 ≤ k ∧ k ≤ 65536) ∧ 1 ≤ s ∧ s ≤ 16777215) (h2 : m < 1) :
    Calls Tryz.prog 15 #[.int .i64 k, .int .i64 s, .int .i64 m, .agg #[.bool b, .slice a xs.length ca, .slice c ds.length cc]] w fun e w' => TblSaid ([], 3) w e w' := by
  have HC := hide (fun (W : World) (hb : Below w.heap.size w W) => kcheck_any b (F1.below hb) (by omega) (by omega))
  rw [h] at HC
  clear h
  have hm := fun W => dswithin_any k s W
  rw [decide_eq_true h1] at hm
  have HM := hide hm
  clear hm
  have g1 : decide (m < 1) = true := decide_eq_true h2
  clear h1
  have hB := Below.refl w.heap.size w
  go_enter Tryz.func15, Tryz.ntmps15
  have hs0 := Nat.le_refl w.heap.size
  have hq := below_new w (.cells #[.bool b, .slice a xs.length ca, .slice c ds.length cc] 27)
  replace F1 := F1.below hq
  have EQ := Box.put (w := w) (k := (w.heap.size)) (.cells #[.bool b, .slice a xs.length ca, .slice c ds.length cc] 27) rfl
  replace hs0 := Nat.le_trans hs0 hq.size
  replace hB := hB.trans (hq.mono hB.size)
  clear hq
  go_wp2_with fail
  obtain ⟨u1, hname⟩ := nm hB
  rw [hname] at hs0 hB F1 EQ ⊢
  have zh1 := hB.size
  have zs1 := hs0
  clear hname hs0
  refine (HC.out _ hB).mono ?_
  rintro e w2 ⟨rfl, hb⟩
  replace F1 := F1.below hb
  replace EQ := EQ.below hb
  replace hB := hB.trans (hb.mono hB.size)
  have zz2 := hb.size
  have zh2 := hB.size
  clear hb
  obtain ⟨k0, k1, k2, f0, f1, f2⟩ := EQ.three
  go_wp2_with fail
  clear k0 k1 k2 f0 f1 f2
  refine (HM.out _).mono ?_
  rintro e w3 ⟨rfl, hb⟩
  replace F1 := F1.below hb
  replace EQ := EQ.below hb
  replace hB := hB.trans (hb.mono hB.size)
  have zz3 := hb.size
  have zh3 := hB.size
  clear hb
  go_wp2
  go_ret2
  exact ⟨none, 0, 0, rfl, Intz.nil _ _, hB⟩
set_option maxRecDepth 100000 in
set_option maxHeartbeats 4000000 in
theorem dsRobust_high {a c : Option Addr} {ca cc : Nat} {xs ds : List Int} {w : World} (b : Bool) (F1 : Fr 0 w a ca xs c cc ds) (hl : xs.length ≤ 4 ∧ ds.length ≤ 4) (k s m : Int) (h : formR b xs ds = 0) (h1 : (1 ≤ k ∧ k ≤ 65536) ∧ 1 ≤ s ∧ s ≤ 16777215) (h2 : ¬ m < 1) (h3 : k < m) :
    Calls Tryz.prog 15 #[.int .i64 k, .int .i64 s, .int .i64 m, .agg #[.bool b, .slice a xs.length ca, .slice c ds.length cc]] w fun e w' => TblSaid ([], 3) w e w' := by
  have HC := hide (fun (W : World) (hb : Below w.heap.size w W) => kcheck_any b (F1.below hb) (by omega) (by omega))
  rw [h] at HC
  clear h
  have hm := fun W => dswithin_any k s W
  rw [decide_eq_true h1] at hm
  have HM := hide hm
  clear hm
  have g1 : decide (m < 1) = false := decide_eq_false h2
  have g2 : decide (k < m) = true := decide_eq_true h3
  clear h1
  have hB := Below.refl w.heap.size w
  go_enter Tryz.func15, Tryz.ntmps15
  have hs0 := Nat.le_refl w.heap.size
  have hq := below_new w (.cells #[.bool b, .slice a xs.length ca, .slice c ds.length cc] 27)
  replace F1 := F1.below hq
  have EQ := Box.put (w := w) (k := (w.heap.size)) (.cells #[.bool b, .slice a xs.length ca, .slice c ds.length cc] 27) rfl
  replace hs0 := Nat.le_trans hs0 hq.size
  replace hB := hB.trans (hq.mono hB.size)
  clear hq
  go_wp2_with fail
  obtain ⟨u1, hname⟩ := nm hB
  rw [hname] at hs0 hB F1 EQ ⊢
  have zh1 := hB.size
  have zs1 := hs0
  clear hname hs0
  refine (HC.out _ hB).mono ?_
  rintro e w2 ⟨rfl, hb⟩
  replace F1 := F1.below hb
  replace EQ := EQ.below hb
  replace hB := hB.trans (hb.mono hB.size)
  have zz2 := hb.size
  have zh2 := hB.size
  clear hb
  obtain ⟨k0, k1, k2, f0, f1, f2⟩ := EQ.three
  go_wp2_with fail
  clear k0 k1 k2 f0 f1 f2
  refine (HM.out _).mono ?_
  rintro e w3 ⟨rfl, hb⟩
  replace F1 := F1.below hb
  replace EQ := EQ.below hb
  replace hB := hB.trans (hb.mono hB.size)
  have zz3 := hb.size
  have zh3 := hB.size
  clear hb
  go_wp2
  go_ret2
  exact ⟨none, 0, 0, rfl, Intz.nil _ _, hB⟩
set_option maxRecDepth 100000 in
set_option maxHeartbeats 4000000 in
theorem dsRobust_sign {a c : Option Addr} {ca cc : Nat} {xs ds : List Int} {w : World} (b : Bool) (F1 : Fr 0 w a ca xs c cc ds) (hl : xs.length ≤ 4 ∧ ds.length ≤ 4) (k s m : Int) (h : formR b xs ds = 0) (h1 : (1 ≤ k ∧ k ≤ 65536) ∧ 1 ≤ s ∧ s ≤ 16777215) (h2 : ¬ m < 1) (h3 : ¬ k < m) (h4 : b = true) :
    Calls Tryz.prog 15 #[.int .i64 k, .int .i64 s, .int .i64 m, .agg #[.bool b, .slice a xs.length ca, .slice c ds.length cc]] w fun e w' => TblSaid ([], 3) w e w' := by
  subst h4
  have HC := hide (fun (W : World) (hb : Below w.heap.size w W) => kcheck_any true (F1.below hb) (by omega) (by omega))
  rw [h] at HC
  clear h
  have hm := fun W => dswithin_any k s W
  rw [decide_eq_true h1] at hm
  have HM := hide hm
  clear hm
  have g1 : decide (m < 1) = false := decide_eq_false h2
  have g2 : decide (k < m) = false := decide_eq_false h3
  clear h1
  have hB := Below.refl w.heap.size w
  go_enter Tryz.func15, Tryz.ntmps15
  have hs0 := Nat.le_refl w.heap.size
  have hq := below_new w (.cells #[.bool true, .slice a xs.length ca, .slice c ds.length cc] 27)
  replace F1 := F1.below hq
  have EQ := Box.put (w := w) (k := (w.heap.size)) (.cells #[.bool true, .slice a xs.length ca, .slice c ds.length cc] 27) rfl
  replace hs0 := Nat.le_trans hs0 hq.size
  replace hB := hB.trans (hq.mono hB.size)
  clear hq
  go_wp2_with fail
  obtain ⟨u1, hname⟩ := nm hB
  rw [hname] at hs0 hB F1 EQ ⊢
  have zh1 := hB.size
  have zs1 := hs0
  clear hname hs0
  refine (HC.out _ hB).mono ?_
  rintro e w2 ⟨rfl, hb⟩
  replace F1 := F1.below hb
  replace EQ := EQ.below hb
  replace hB := hB.trans (hb.mono hB.size)
  have zz2 := hb.size
  have zh2 := hB.size
  clear hb
  obtain ⟨k0, k1, k2, f0, f1, f2⟩ := EQ.three
  go_wp2_with fail
  clear k0 k1 k2 f0 f1 f2
  refine (HM.out _).mono ?_
  rintro e w3 ⟨rfl, hb⟩
  replace F1 := F1.below hb
  replace EQ := EQ.below hb
  replace hB := hB.trans (hb.mono hB.size)
  have zz3 := hb.size
  have zh3 := hB.size
  clear hb
  obtain ⟨k0, k1, k2, f0, f1, f2⟩ := EQ.three
  go_wp2
  go_ret2
  exact ⟨none, 0, 0, rfl, Intz.nil _ _, hB⟩
set_option maxRecDepth 100000 in
set_option maxHeartbeats 4000000 in
theorem dsRobust_ok {a c : Option Addr} {ca cc : Nat} {xs ds : List Int} {w : World} (b : Bool) (F1 : Fr 0 w a ca xs c cc ds) (hl : xs.length ≤ 4 ∧ ds.length ≤ 4) (k : Nat) (s m : Int) (h : formR b xs ds = 0) (h1 : (1 ≤ (k : Int) ∧ (k : Int) ≤ 65536) ∧ 1 ≤ s ∧ s ≤ 16777215) (h2 : ¬ m < 1) (h3 : ¬ (k : Int) < m) (h4 : b = false) :
    Calls Tryz.prog 15 #[.int .i64 (k : Int), .int .i64 s, .int .i64 m, .agg #[.bool b, .slice a xs.length ca, .slice c ds.length cc]] w fun e w' => TblSaid (tblS (wts s (robF k m (ratL b xs ds)) k)) w e w' := by
  subst h4
  have hlow := (formR_low F1.up.words F1.down.words).1 h
  have HI1 : Hid (Is false xs ds (ratL false xs ds) 4) := ⟨hlow, rfl, hl.1, hl.2⟩
  have HTW : Hid (toldT (wds s (robF k m (ratL false xs ds)) k) k = tblS (wts s (robF k m (ratL false xs ds)) k)) := told_wds (by omega) (fun j _ => rob_nonneg (by omega) h1.2.1 (by omega) (ratL_nonneg F1.up.words hlow.2.2.1) j)
  have HC := hide (fun (W : World) (hb : Below w.heap.size w W) => kcheck_any false (F1.below hb) (by omega) (by omega))
  rw [h] at HC
  clear h
  obtain ⟨q, hq⟩ : ∃ q, ratL false xs ds = q := ⟨_, rfl⟩
  rw [hq] at HI1 HTW ⊢
  have HWT : Hid (∀ (g : Bool) (a1 e1 : Option Addr) (c1 t1 : Nat) (x1 y1 : List Int) (W : World) (d : Int), Below w.heap.size w W → Fr 0 W a1 c1 x1 e1 t1 y1 → Is g x1 y1 (idQ k d + shQ m q d) 11 → Calls Tryz.prog 38 #[.int .i64 s, .agg #[.bool g, .slice a1 x1.length c1, .slice e1 y1.length t1]] W fun e w' => e = .returned (.int .i64 (wd s (robF k m q d))) ∧ Below W.heap.size W w') := fun g a1 e1 c1 t1 x1 y1 W d _ F I => dsweight_any s (by omega) g F (I.mono (by decide))
  have hm := fun W => dswithin_any (k : Int) s W
  rw [decide_eq_true h1] at hm
  have HM := hide hm
  clear hm
  have g1 : decide (m < 1) = false := decide_eq_false h2
  have g2 : decide ((k : Int) < m) = false := decide_eq_false h3
  clear hq hlow
  have hB := Below.refl w.heap.size w
  go_enter Tryz.func15, Tryz.ntmps15
  have hs0 := Nat.le_refl w.heap.size
  have hq := below_new w (.cells #[.bool false, .slice a xs.length ca, .slice c ds.length cc] 27)
  replace F1 := F1.below hq
  have EQ := Box.put (w := w) (k := (w.heap.size)) (.cells #[.bool false, .slice a xs.length ca, .slice c ds.length cc] 27) rfl
  replace hs0 := Nat.le_trans hs0 hq.size
  replace hB := hB.trans (hq.mono hB.size)
  clear hq
  go_wp2_with fail
  obtain ⟨u1, hname⟩ := nm hB
  rw [hname] at hs0 hB F1 EQ ⊢
  have zh1 := hB.size
  have zs1 := hs0
  clear hname hs0
  refine (HC.out _ hB).mono ?_
  rintro e w2 ⟨rfl, hb⟩
  replace F1 := F1.below hb
  replace EQ := EQ.below hb
  replace hB := hB.trans (hb.mono hB.size)
  have zz2 := hb.size
  have zh2 := hB.size
  clear hb
  obtain ⟨k0, k1, k2, f0, f1, f2⟩ := EQ.three
  go_wp2_with fail
  clear k0 k1 k2 f0 f1 f2
  refine (HM.out _).mono ?_
  rintro e w3 ⟨rfl, hb⟩
  replace F1 := F1.below hb
  replace EQ := EQ.below hb
  replace hB := hB.trans (hb.mono hB.size)
  have zz3 := hb.size
  have zh3 := hB.size
  clear hb
  obtain ⟨k0, k1, k2, f0, f1, f2⟩ := EQ.three
  go_wp2
  clear k0 k1 k2 f0 f1 f2
  have HB0 := hide hB
  have HEQ := hide EQ
  have HF1 := hide F1
  clear hB EQ F1
  go_loopw [10, 11] (fun lv iv wr => ∃ (i : Nat) (a : Option Addr) (cp : Nat), i ≤ k ∧ lv = .slice a i cp ∧ iv = .int .i64 ((i : Int) + 1) ∧ Hid (OwnI w3.heap.size wr (.slice a i cp) (wds s (robF k m q) i)) ∧ Hid (Below w3.heap.size w3 wr)) (fun _ iv _ => k + 1 - (intOf iv).toNat)
  case atStart => exact ⟨0, none, 0, Nat.zero_le _, rfl, rfl, owni_nil _ _, Below.refl _ _⟩
  case round =>
    obtain ⟨i, al, cp, hi, rfl, rfl, HO, HB⟩ := hrel
    by_cases hik : i < k
    · have hdl : decide ((i : Int) + 1 ≤ (k : Int)) = true := decide_eq_true (by omega)
      have hw1 : IntKind.i64.wrap ((i : Int) + 1 + 1) = (i : Int) + 1 + 1 := by rw [IntKind.wrap_i64]; omega
      have HS : Hid (wds s (robF k m q) i ++ [wd s (robF k m q ((i : Int) + 1))] = wds s (robF k m q) (i + 1)) := rfl
      have EQ := HEQ.out.below HB.out
      have F1 := HF1.out.below HB.out
      have I1 := HI1.out
      have hB := HB0.out.trans (HB.out.mono HB0.out.size)
      have hR := Below.refl wr.heap.size wr
      have hd1 : 1 ≤ (i : Int) + 1 := by omega
      have hd2 : (i : Int) + 1 ≤ k := by omega
      generalize hdd : (i : Int) + 1 = d at *
      obtain ⟨k0, k1, k2, f0, f1, f2⟩ := EQ.three
      go_wp2_with fail
      clear k0 k1 k2 f0 f1 f2
      replace F1 := F1.drew
      have qEQ := EQ.lt
      replace EQ := EQ.drew
      refine wp_yieldsZ 13 11 [.is (.int .i64 (k : Int)), .is (.int .i64 d), (Yield.frac wr.heap.size (idQ k d) (1)), .is (.int .i64 d), .is (.int .i64 m), .is (.agg #[.bool false, .slice a xs.length ca, .slice c ds.length cc]), (Yield.fro (shQ m q d) (4)), (Yield.row 2 4 [idQ k d, shQ m q d]), (Yield.fracE wr.heap.size (idQ k d + shQ m q d) (11)), (Yield.fracE wr.heap.size (idQ k d + shQ m q d) (11)), (Yield.frac wr.heap.size (idQ k d + shQ m q d) (11)), .is (.int .i64 0), (.new wr.heap.size (.cells #[.bool false, .slice none 0 0, .slice none 0 0] 27))] (.int .i64 0) rfl (by kernel_rfl) (by kernel_rfl) (lt_cons ?_ (lt_cons ?_ (lt_cons ?_ (lt_cons ?_ (lt_cons ?_ (lt_cons ?_ (lt_cons ?_ (lt_cons ?_ (lt_cons ?_ (lt_cons ?_ (lt_cons ?_ (lt_cons ?_ (lt_cons ?_ lt_nil))))))))))))) ?_
      case refine_1 =>
        refine OpDoes.mk rfl ?_
        intro vs V hV hd K hK
        simp only [laidIn, lz1, lz2, lz3, lz4, lz5, lz6, if_true, Act.put, lz7, lz8, lz9] at hK ⊢
        go_simp
        exact hK.out _ _ ((Below.refl _ _).a1 _) ⟨_, rfl, Box.new _ _, hV.size⟩ (fresh_apart _ _ (fresh_new _))
      case refine_2 =>
        refine OpDoes.mk rfl ?_
        intro vs V hV hd K hK
        have hh := fun (P : Prop) => Yield.fracE_elim P (show ((Yield.fracE wr.heap.size (idQ k d + shQ m q d) (11)) : Yield).At (vs 9) V from hd 9 (by decide) (by kernel_rfl))
        refine hh _ ?_
        intro g6 a6 c6 x6 e6 t6 y6 d9 F6 P6 I6
        clear hh
        simp only [laidIn, lz1, lz2, lz3, lz4, lz5, lz6, if_true, Act.put, lz7, lz8, lz9] at hK ⊢
        simp only [d9] at hK ⊢
        go_simp
        exact hK.out _ _ (Below.refl _ _) rfl (not_fresh rfl)
      case refine_3 =>
        refine OpDoes.mk rfl ?_
        intro vs V hV hd K hK
        have hh := fun (P : Prop) => Yield.fracE_elim P (show ((Yield.fracE wr.heap.size (idQ k d + shQ m q d) (11)) : Yield).At (vs 9) V from hd 9 (by decide) (by kernel_rfl))
        refine hh _ ?_
        intro g6 a6 c6 x6 e6 t6 y6 d9 F6 P6 I6
        clear hh
        simp only [laidIn, lz1, lz2, lz3, lz4, lz5, lz6, if_true, Act.put, lz7, lz8, lz9] at hK ⊢
        simp only [d9] at hK ⊢
        go_simp
        exact hK.out _ _ (Below.refl _ _) ⟨_, _, _, _, _, _, _, rfl, F6, P6, I6⟩ (not_fresh rfl)
      case refine_4 =>
        refine OpDoes.mk rfl ?_
        intro vs V hV hd K hK
        have hh := fun (P : Prop) => Yield.fracE_elim P (show ((Yield.fracE wr.heap.size (idQ k d + shQ m q d) (11)) : Yield).At (vs 8) V from hd 8 (by decide) (by kernel_rfl))
        refine hh _ ?_
        intro g4 a4 c4 x4 e4 t4 y4 d8 F4 P4 I4
        clear hh
        simp only [laidIn, lz1, lz2, lz3, lz4, lz5, lz6, if_true, Act.put, lz7, lz8, lz9] at hK ⊢
        simp only [d8] at hK ⊢
        go_simp
        exact hK.out _ _ (Below.refl _ _) ⟨_, _, _, _, _, _, _, rfl, F4, P4, I4⟩ (not_fresh rfl)
      case refine_5 =>
        refine OpDoes.mk rfl ?_
        intro vs V hV hd K hK
        have hh := fun (P : Prop) => Yield.row_elim P (show ((Yield.row 2 4 [idQ k d, shQ m q d]) : Yield).At (vs 7) V from hd 7 (by decide) (by kernel_rfl))
        refine hh _ ?_
        intro k5 r5 d7 J5 R5 L5 G5 Q5
        clear hh
        simp only [laidIn, lz1, lz2, lz3, lz4, lz5, lz6, if_true, Act.put, lz7, lz8, lz9] at hK ⊢
        simp only [d7] at hK ⊢
        go_simp
        go_at_call 46
        refine (kadd_row J5 R5 L5 G5 Q5 (by omega) (by omega)).mono ?_
        rintro e V' ⟨g4, a4, c4, x4, e4, t4, y4, rfl, F4, P4, I4, hb⟩
        replace I4 : Is g4 x4 y4 (idQ k d + shQ m q d) (11) := (I4.mono (by omega)).to (two_add _ _)
        exact hK.out _ _ hb ⟨_, _, _, _, _, _, _, rfl, F4.mono hV.size, P4, I4⟩ (not_fresh rfl)
      case refine_6 =>
        refine OpDoes.mk rfl ?_
        intro vs V hV hd K hK
        have hh := fun (P : Prop) => Yield.frac_elim P (show ((Yield.frac wr.heap.size (idQ k d) (1)) : Yield).At (vs 2) V from hd 2 (by decide) (by kernel_rfl))
        refine hh _ ?_
        intro g2 a2 c2 x2 e2 t2 y2 d2 F2 P2 I2
        clear hh
        have hh := fun (P : Prop) => Yield.fro_elim P (show ((Yield.fro (shQ m q d) (4)) : Yield).At (vs 6) V from hd 6 (by decide) (by kernel_rfl))
        refine hh _ ?_
        intro g3 a3 c3 x3 e3 t3 y3 d6 F3 I3
        clear hh
        simp only [laidIn, lz1, lz2, lz3, lz4, lz5, lz6, if_true, Act.put, lz7, lz8, lz9] at hK ⊢
        simp only [d2, d6] at hK ⊢
        go_simp
        exact hK.out _ _ ((Below.refl _ _).a1 _) (Yield.row_two ⟨g2, a2, c2, x2, e2, t2, y2⟩ ⟨g3, a3, c3, x3, e3, t3, y3⟩ (F2.mono (Nat.zero_le _)) I2 (F3.mono (Nat.zero_le _)) I3 (by omega) (by omega)) (not_fresh rfl)
      case refine_7 =>
        refine OpDoes.mk rfl ?_
        intro vs V hV hd K hK
        have d3 : vs 3 = .int .i64 d := hd 3 (by decide) (by kernel_rfl)
        have d4 : vs 4 = .int .i64 m := hd 4 (by decide) (by kernel_rfl)
        have d5 : vs 5 = .agg #[.bool false, .slice a xs.length ca, .slice c ds.length cc] := hd 5 (by decide) (by kernel_rfl)
        simp only [laidIn, lz1, lz2, lz3, lz4, lz5, lz6, if_true, Act.put, lz7, lz8, lz9] at hK ⊢
        simp only [d3, d4, d5] at hK ⊢
        go_simp
        go_at_call 47
        refine (dsshare_any d m (by omega) (by omega) false (F1.below hV) I1 (by decide)).mono ?_
        rintro e V' ⟨g3, a3, c3, x3, e3, t3, y3, rfl, F3, I3, hb⟩
        exact hK.out _ _ hb ⟨_, _, _, _, _, _, _, rfl, F3, I3⟩ (not_fresh rfl)
      case refine_8 =>
        refine OpDoes.mk rfl ?_
        intro vs V hV hd K hK
        have hcc := (EQ.below hV).three
        have k0 := hcc.1
        have k1 := hcc.2.1
        have k2 := hcc.2.2.1
        clear hcc
        simp only [laidIn, lz1, lz2, lz3, lz4, lz5, lz6, if_true, Act.put, lz7, lz8, lz9] at hK ⊢
        go_simp
        exact hK.out _ _ (Below.refl _ _) rfl (not_fresh rfl)
      case refine_9 =>
        refine OpDoes.mk rfl ?_
        intro vs V hV hd K hK
        simp only [laidIn, lz1, lz2, lz3, lz4, lz5, lz6, if_true, Act.put, lz7, lz8, lz9] at hK ⊢
        go_simp
        exact hK.out _ _ (Below.refl _ _) rfl (not_fresh rfl)
      case refine_10 =>
        refine OpDoes.mk rfl ?_
        intro vs V hV hd K hK
        simp only [laidIn, lz1, lz2, lz3, lz4, lz5, lz6, if_true, Act.put, lz7, lz8, lz9] at hK ⊢
        go_simp
        exact hK.out _ _ (Below.refl _ _) rfl (not_fresh rfl)
      case refine_11 =>
        refine OpDoes.mk rfl ?_
        intro vs V hV hd K hK
        have d0 : vs 0 = .int .i64 (k : Int) := hd 0 (by decide) (by kernel_rfl)
        have d1 : vs 1 = .int .i64 d := hd 1 (by decide) (by kernel_rfl)
        simp only [laidIn, lz1, lz2, lz3, lz4, lz5, lz6, if_true, Act.put, lz7, lz8, lz9] at hK ⊢
        simp only [d0, d1] at hK ⊢
        go_simp
        go_at_call 39
        refine (dsideal_any d k (by omega) (by omega) _).mono ?_
        rintro e V' ⟨g2, a2, c2, x2, e2, t2, y2, rfl, F2, P2, I2, hb⟩
        replace I2 : Is g2 x2 y2 (idQ k d) (1) := I2.mono (by omega)
        exact hK.out _ _ hb ⟨_, _, _, _, _, _, _, rfl, F2.mono hV.size, P2, I2⟩ (not_fresh rfl)
      case refine_12 =>
        refine OpDoes.mk rfl ?_
        intro vs V hV hd K hK
        simp only [laidIn, lz1, lz2, lz3, lz4, lz5, lz6, if_true, Act.put, lz7, lz8, lz9] at hK ⊢
        go_simp
        exact hK.out _ _ (Below.refl _ _) rfl (not_fresh rfl)
      case refine_13 =>
        refine OpDoes.mk rfl ?_
        intro vs V hV hd K hK
        simp only [laidIn, lz1, lz2, lz4, lz5, lz6, if_true, Act.put, lz7, lz8, lz9] at hK ⊢
        go_simp
        exact hK.out _ _ (Below.refl _ _) rfl (not_fresh rfl)
      case refine_14 =>
        intro vs Y1 hV hR hne fuel
        have d0 : vs 0 = .int .i64 (k : Int) := hR 0 (by decide)
        have d1 : vs 1 = .int .i64 d := hR 1 (by decide)
        have hh := fun (P : Prop) => Yield.frac_elim P (show ((Yield.frac wr.heap.size (idQ k d) (1)) : Yield).At (vs 2) Y1 from hR 2 (by decide))
        refine hh _ ?_
        intro g2 a2 c2 x2 e2 t2 y2 d2 F2 P2 I2
        clear hh
        have d3 : vs 3 = .int .i64 d := hR 3 (by decide)
        have d4 : vs 4 = .int .i64 m := hR 4 (by decide)
        have d5 : vs 5 = .agg #[.bool false, .slice a xs.length ca, .slice c ds.length cc] := hR 5 (by decide)
        have hh := fun (P : Prop) => Yield.fro_elim P (show ((Yield.fro (shQ m q d) (4)) : Yield).At (vs 6) Y1 from hR 6 (by decide))
        refine hh _ ?_
        intro g3 a3 c3 x3 e3 t3 y3 d6 F3 I3
        clear hh
        have hh := fun (P : Prop) => Yield.row_elim P (show ((Yield.row 2 4 [idQ k d, shQ m q d]) : Yield).At (vs 7) Y1 from hR 7 (by decide))
        refine hh _ ?_
        intro k5 r5 d7 J5 R5 L5 G5 Q5
        clear hh
        have hh := fun (P : Prop) => Yield.fracE_elim P (show ((Yield.fracE wr.heap.size (idQ k d + shQ m q d) (11)) : Yield).At (vs 8) Y1 from hR 8 (by decide))
        refine hh _ ?_
        intro g4 a4 c4 x4 e4 t4 y4 d8 F4 P4 I4
        clear hh
        have hh := fun (P : Prop) => Yield.fracE_elim P (show ((Yield.fracE wr.heap.size (idQ k d + shQ m q d) (11)) : Yield).At (vs 9) Y1 from hR 9 (by decide))
        refine hh _ ?_
        intro g6 a6 c6 x6 e6 t6 y6 d9 F6 P6 I6
        clear hh
        have hh := fun (P : Prop) => Yield.frac_elim P (show ((Yield.frac wr.heap.size (idQ k d + shQ m q d) (11)) : Yield).At (vs 10) Y1 from hR 10 (by decide))
        refine hh _ ?_
        intro g7 a7 c7 x7 e7 t7 y7 d10 F7 P7 I7
        clear hh
        have d11 : vs 11 = .int .i64 0 := hR 11 (by decide)
        obtain ⟨k_E91, d12, E91, l_E91⟩ := (show ((.new wr.heap.size (.cells #[.bool false, .slice none 0 0, .slice none 0 0] 27)) : Yield).At (vs 12) Y1 from hR 12 (by decide))
        replace F1 := F1.below hV
        replace EQ := EQ.below hV
        have hr := hV
        clear hR hne hV
        have hcc := E91.three
        have k0 := hcc.1
        have k1 := hcc.2.1
        have k2 := hcc.2.2.1
        have f0 := hcc.2.2.2.1
        have f1 := hcc.2.2.2.2.1
        have f2 := hcc.2.2.2.2.2
        clear hcc
        apply mp_of
        case f =>
          intro hgoal
          constructor
          · skip
            simp only [laidIn, lz4, lz5, lz6, if_true, Act.put, lz7, lz8, lz9]
            simp only [d0, d1, d2, d3, d4, d5, d6, d7, d8, d9, d10, d11, d12]
            show wpAny _ _ _ _ (fuel + 2) _ _ _
            refine wpAny_all (rs := [13]) (by kernel_rfl) (by simp) (fun i hi => ?_)
            obtain rfl : i = 13 := by simpa using hi
            clear hi
            refine wpOp_step rfl (fun K hK => ?_)
            simp only [lz1, lz2, lz3]
            rw [if_pos (by rfl)]
            go_simp
            refine hK _ _ ?_
            clear hK
            refine wpAny_all (rs := [14]) (by kernel_rfl) (by simp) (fun i hi => ?_)
            obtain rfl : i = 14 := by simpa using hi
            clear hi
            refine wpOp_step rfl (fun K hK => ?_)
            simp only [lz1, lz2, lz3]
            rw [if_pos (by rfl)]
            go_simp
            refine hK _ _ ?_
            clear hK
            refine wpAny_done (by kernel_rfl) ?_ _
            exact hgoal
          · skip
            simp only [laidIn, lz4, lz5, lz6, if_true, Act.put, lz7, lz8, lz9, Bool.false_eq_true, if_false, show ((0 : Nat) != 11) = true from rfl, show ((1 : Nat) != 11) = true from rfl, show ((2 : Nat) != 11) = true from rfl, show ((3 : Nat) != 11) = true from rfl, show ((4 : Nat) != 11) = true from rfl, show ((5 : Nat) != 11) = true from rfl, show ((6 : Nat) != 11) = true from rfl, show ((7 : Nat) != 11) = true from rfl, show ((8 : Nat) != 11) = true from rfl, show ((9 : Nat) != 11) = true from rfl, show ((10 : Nat) != 11) = true from rfl, show ((11 : Nat) != 11) = false from rfl, show ((12 : Nat) != 11) = true from rfl]
            simp only [d0, d1, d2, d3, d4, d5, d6, d7, d8, d9, d10, d12]
            show wpAny _ _ _ _ (fuel + 3) _ _ _
            refine wpAny_all (rs := [11, 13]) (by kernel_rfl) (by simp) (fun i hi => ?_)
            rcases (show i = 11 ∨ i = 13 by simpa using hi) with rfl | rfl
            · clear hi
              refine wpOp_step rfl (fun K hK => ?_)
              simp only [lz1, lz2, lz3]
              rw [if_pos (by rfl)]
              go_simp
              refine hK _ _ ?_
              clear hK
              refine wpAny_all (rs := [13]) (by kernel_rfl) (by simp) (fun i hi => ?_)
              obtain rfl : i = 13 := by simpa using hi
              clear hi
              refine wpOp_step rfl (fun K hK => ?_)
              simp only [lz1, lz2, lz3]
              rw [if_pos (by rfl)]
              go_simp
              refine hK _ _ ?_
              clear hK
              refine wpAny_all (rs := [14]) (by kernel_rfl) (by simp) (fun i hi => ?_)
              obtain rfl : i = 14 := by simpa using hi
              clear hi
              refine wpOp_step rfl (fun K hK => ?_)
              simp only [lz1, lz2, lz3]
              rw [if_pos (by rfl)]
              go_simp
              refine hK _ _ ?_
              clear hK
              refine wpAny_done (by kernel_rfl) ?_ _
              exact hgoal
            · clear hi
              refine wpOp_step rfl (fun K hK => ?_)
              simp only [lz1, lz2, lz3]
              rw [if_pos (by rfl)]
              go_simp
              refine hK _ _ ?_
              clear hK
              refine wpAny_all (rs := [11]) (by kernel_rfl) (by simp) (fun i hi => ?_)
              obtain rfl : i = 11 := by simpa using hi
              clear hi
              refine wpOp_step rfl (fun K hK => ?_)
              simp only [lz1, lz2, lz3]
              rw [if_pos (by rfl)]
              go_simp
              refine hK _ _ ?_
              clear hK
              refine wpAny_all (rs := [14]) (by kernel_rfl) (by simp) (fun i hi => ?_)
              obtain rfl : i = 14 := by simpa using hi
              clear hi
              refine wpOp_step rfl (fun K hK => ?_)
              simp only [lz1, lz2, lz3]
              rw [if_pos (by rfl)]
              go_simp
              refine hK _ _ ?_
              clear hK
              refine wpAny_done (by kernel_rfl) ?_ _
              exact hgoal
        case p =>
          clear k0 f0 k1 f1 k2 f2
          have hT := turns3 (k_E91) Y1 (.bool g7) (.slice a7 x7.length c7) (.slice e7 y7.length t7)
          replace F1 := F1.beside E91 (noWord3 (fun _ e => by cases e) (fun _ e => by cases e) (fun _ e => by cases e)) hT
          replace EQ := EQ.turns hT (by omega)
          replace F2 := F2.beside E91 (noWord3 (fun _ e => by cases e) (fun _ e => by cases e) (fun _ e => by cases e)) hT
          replace F3 := F3.beside E91 (noWord3 (fun _ e => by cases e) (fun _ e => by cases e) (fun _ e => by cases e)) hT
          replace F4 := F4.beside E91 (noWord3 (fun _ e => by cases e) (fun _ e => by cases e) (fun _ e => by cases e)) hT
          replace F6 := F6.beside E91 (noWord3 (fun _ e => by cases e) (fun _ e => by cases e) (fun _ e => by cases e)) hT
          replace F7 := F7.beside E91 (noWord3 (fun _ e => by cases e) (fun _ e => by cases e) (fun _ e => by cases e)) hT
          replace E91 := Box.set3 (.bool g7) (.slice a7 x7.length c7) (.slice e7 y7.length t7) E91
          have hr13 := hT.below
          obtain ⟨X1, hX⟩ := nm hT.below
          rw [hX] at F1 EQ F2 F3 F4 F6 F7 E91 hr13 ⊢
          clear hX hT
          replace hB := hB.trans ((Below.trans (Below.drew (Below.refl wr.heap.size wr)) hr).mono hB.size)
          replace hB := hB.trans (hr13.mono (by omega))
          replace hR := hR.trans ((Below.trans (Below.drew (Below.refl wr.heap.size wr)) hr).mono hR.size)
          replace hR := hR.trans (hr13.mono (by omega))
          have zz3_1 := hr.size
          have zi1 := hB.size
          have zy1_13 := hr13.size
          clear hr hr13
          clear d0 d1 d2 d3 d4 d5 d6 d7 d8 d9 d10 d11 d12
          clear vs
          clear EQ
          obtain ⟨k0, k1, k2, f0, f1, f2⟩ := E91.three
          go_wp2_with fail
          clear k0 k1 k2 f0 f1 f2
          refine (HWT.out _ _ _ _ _ _ _ _ d hB (F7.mono (Nat.zero_le _)) I7).mono ?_
          rintro e w4 ⟨rfl, hb⟩
          replace F1 := F1.below hb
          replace F2 := F2.below hb
          replace F3 := F3.below hb
          replace F4 := F4.below hb
          replace F6 := F6.below hb
          replace F7 := F7.below hb
          replace E91 := E91.below hb
          replace hB := hB.trans (hb.mono hB.size)
          replace hR := hR.trans (hb.mono hR.size)
          have zz4 := hb.size
          have zh4 := hB.size
          clear hb
          have HO3 := hide (HO.out.below hR)
          have HB3 := hide (HB.out.trans (hR.mono HB.out.size))
          subst hdd
          have hvr := hide (wd_rng s (robF k m q ((i : Int) + 1)))
          obtain ⟨v, hv⟩ : ∃ v, wd s (robF k m q ((i : Int) + 1)) = v := ⟨_, rfl⟩
          rw [hv] at hvr HS ⊢
          clear hv hB hR HO HB F2 F3 F4 F6 F7 E91 F1
          obtain ⟨a', c', w4, hap, O4, B4⟩ := owni_append HO3.out v hvr.out (by rw [wds_len]; omega) HB3.out.size
          rw [wds_len] at hap O4
          rw [HS.out] at O4
          have HO4 := hide O4
          have HB4 := hide (HB3.out.trans B4)
          clear O4 B4 HO3 HB3
          go_wp2_with (at_builtin; refine Lib.wpList_append_run _ rfl _ _ _ _ rfl _ _ rfl rfl _ _ hap ?_)
          exact ⟨⟨i + 1, a', c', by omega, by first | rfl | trivial, by go_num, HO4.out, HB4.out⟩, by simp [intOf]; omega⟩
    · obtain rfl : i = k := by omega
      have hdl : decide ((i : Int) + 1 ≤ (i : Int)) = false := decide_eq_false (by omega)
      have hc := dstold_any HO.out.intz i
      rw [HTW.out] at hc
      go_wp2_with fail
      refine hc.mono ?_
      rintro e w2 ⟨⟨a', n', c', rfl, Z⟩, hb⟩
      have HBB := hide (HB0.out.trans ((HB.out.trans (hb.mono HB.out.size)).mono HB0.out.size))
      have HZ := hide (Z.mono HB0.out.size)
      clear hc Z hb
      go_wp2
      go_ret2
      exact ⟨_, _, _, rfl, HZ.out, HBB.out⟩
end Go.Proofs.YtejocefblpkdjaaGreat
namespace Go.Proofs.YtejocefblpkdjaaGreat
open Go.RowKit
end Go.Proofs.YtejocefblpkdjaaGreat
namespace Go.Proofs.YtejocefblpkdjaaGreat
open Go.RowKit
theorem intz_box {W : World} {k n : Nat} {cs : Array Value} {t : TypeId} (E : Box W k (.cells cs t (0, 0))) (zs : List Int) (hz : Nums zs) (hn : zs.length = n) (h : cs = (zs.map (Value.int .i64)).toArray) : Intz k W (.slice (some ⟨k, 0, none⟩) n n) zs := by
  subst h hn
  refine ⟨hz, _, _, rfl, Nat.le_refl _, fun _ => ⟨k, 0, rfl, Nat.le_refl _, E.lt, fun j hj => ?_, fun j hj => frozen_of_heap E.what _⟩⟩
  rw [cell_of_heap E.what]
  simp [hj]
set_option maxRecDepth 100000 in
set_option maxHeartbeats 1000000 in
theorem lt_far_any (k : Int) (w : World) : Calls Tryz.prog 8 #[.int .i64 k] w fun e w' => e = .returned (.bool (decide (120 < k ∧ k ≤ 65536))) ∧ Below w.heap.size w w' := by
  by_cases h1 : 120 < k
  · have g1 : decide (120 < k) = true := decide_eq_true h1
    rw [show decide (120 < k ∧ k ≤ 65536) = decide (k ≤ 65536) by simp [h1]]
    go_enter Tryz.func8, Tryz.ntmps8
    go_wp2
    go_ret
    exact ⟨rfl, Below.refl _ _⟩
  · have g1 : decide (120 < k) = false := decide_eq_false h1
    rw [decide_eq_false (fun h => h1 h.1)]
    go_enter Tryz.func8, Tryz.ntmps8
    go_wp2
    go_ret
    exact ⟨rfl, Below.refl _ _⟩
set_option maxRecDepth 100000 in
set_option maxHeartbeats 1000000 in
theorem lt_is_any {lo lo2 : Nat} {a p : Option Addr} {n c m d : Nat} {zs ys : List Int} {w : World} (X : Intz lo w (.slice a n c) zs) (Y : Intz lo2 w (.slice p m d) ys) (hl : n ≤ 17592186044416) (e : Int) :
    Calls Tryz.prog 27 #[.slice a n c, .int .i64 e, .slice p m d] w fun r w' => r = .returned (.bool (decide (e = 0 ∧ zs = ys))) ∧ Below w.heap.size w w' := by
  have hc := sameints_any X Y hl
  by_cases h : e = 0
  · subst h
    rw [show decide ((0 : Int) = 0 ∧ zs = ys) = decide (zs = ys) by simp]
    obtain ⟨r, hr⟩ : ∃ r, decide (zs = ys) = r := ⟨_, rfl⟩
    rw [hr] at hc ⊢
    clear hr
    go_enter Tryz.func27, Tryz.ntmps27
    go_wp2_with fail
    refine hc.mono ?_
    rintro e w1 ⟨rfl, b1⟩
    have HB := hide b1
    clear hc b1
    go_wp2
    go_ret
    exact ⟨rfl, HB.out⟩
  · rw [decide_eq_false (fun h' => h h'.1)]
    have he : (e == 0) = false := beq_eq_false_iff_ne.2 h
    clear hc
    go_enter Tryz.func27, Tryz.ntmps27
    go_wp2
    go_ret
    exact ⟨rfl, Below.refl _ _⟩
def robQ (q : Rat) (k s m : Int) : List Int × Int := if ((1 ≤ k ∧ k ≤ 65536) ∧ 1 ≤ s ∧ s ≤ 16777215) ∧ (1 ≤ m ∧ m ≤ k) ∧ 0 ≤ q then tblS (wts s (robF k m q) k.toNat) else ([], 3)
theorem Is.below_iff {b : Bool} {xs ds : List Int} {q : Rat} {n : Nat} (I : Is b xs ds q n) (wx : Words xs) : b = false ↔ 0 ≤ q := by
  have h := rob_sign I.low wx
  rw [← I.rat, ratL, Rat.divInt_nonneg_iff_of_pos_right I.low.2.2.1]
  cases b
  · have := val_nonneg wx
    simp [sgn, this]
  · have := h.2 rfl
    constructor
    · intro h'; cases h'
    · intro h'; omega
theorem robustS_is {b : Bool} {xs ds : List Int} {q : Rat} {n : Nat} (I : Is b xs ds q n) (wx : Words xs) (wd : Words ds) (k s m : Int) : robustS b xs ds k s m = robQ q k s m := by
  unfold robustS robQ
  rw [if_pos ((formR_low wx wd).2 I.low), I.rat]
  by_cases h : ((1 ≤ k ∧ k ≤ 65536) ∧ 1 ≤ s ∧ s ≤ 16777215) ∧ (1 ≤ m ∧ m ≤ k) ∧ b = false
  · rw [if_pos h, if_pos ⟨h.1, h.2.1, (I.below_iff wx).1 h.2.2⟩]
  · rw [if_neg h, if_neg (fun g => h ⟨g.1, g.2.1, (I.below_iff wx).2 g.2.2⟩)]
theorem tsRobust_any {a c : Option Addr} {ca cc : Nat} {xs ds : List Int} {w : World} (b : Bool) (F : Fr 0 w a ca xs c cc ds) (hl : xs.length ≤ 4 ∧ ds.length ≤ 4) (k s m : Int) :
    Calls Tryz.prog 14 #[.int .i64 k, .int .i64 s, .int .i64 m, .agg #[.bool b, .slice a xs.length ca, .slice c ds.length cc]] w fun e w' => TblSaid (robustS b xs ds k s m) w e w' := by
  unfold robustS
  by_cases h : formR b xs ds = 0
  · rw [if_pos h]
    by_cases h1 : (1 ≤ k ∧ k ≤ 65536) ∧ 1 ≤ s ∧ s ≤ 16777215
    · by_cases h2 : 1 ≤ m ∧ m ≤ k
      · cases b
        · rw [if_pos ⟨h1, h2, rfl⟩]
          obtain ⟨n, rfl⟩ : ∃ n : Nat, k = n := ⟨k.toNat, by omega⟩
          exact tsRobust_ok false F hl n s m h h1 h2 rfl
        · rw [if_neg (fun h => by cases h.2.2)]
          exact tsRobust_sign true F hl k s m h h1 h2 rfl
      · rw [if_neg (fun h => h2 h.2.1)]
        exact tsRobust_spike b F hl k s m h h1 h2
    · rw [if_neg (fun h => h1 h.1)]
      exact tsRobust_range b F hl k s m h h1
  · rw [if_neg h]
    exact tsRobust_form b F hl k s m h
theorem dsRobust_any {a c : Option Addr} {ca cc : Nat} {xs ds : List Int} {w : World} (b : Bool) (F : Fr 0 w a ca xs c cc ds) (hl : xs.length ≤ 4 ∧ ds.length ≤ 4) (k s m : Int) :
    Calls Tryz.prog 15 #[.int .i64 k, .int .i64 s, .int .i64 m, .agg #[.bool b, .slice a xs.length ca, .slice c ds.length cc]] w fun e w' => TblSaid (robustS b xs ds k s m) w e w' := by
  unfold robustS
  by_cases h : formR b xs ds = 0
  · rw [if_pos h]
    by_cases h1 : (1 ≤ k ∧ k ≤ 65536) ∧ 1 ≤ s ∧ s ≤ 16777215
    · by_cases h2 : m < 1
      · rw [if_neg (fun h => by have := h.2.1; omega)]
        exact dsRobust_low b F hl k s m h h1 h2
      · by_cases h3 : k < m
        · rw [if_neg (fun h => by have := h.2.1; omega)]
          exact dsRobust_high b F hl k s m h h1 h2 h3
        · cases b
          · rw [if_pos ⟨h1, by omega, rfl⟩]
            obtain ⟨n, rfl⟩ : ∃ n : Nat, k = n := ⟨k.toNat, by omega⟩
            exact dsRobust_ok false F hl n s m h h1 h2 h3 rfl
          · rw [if_neg (fun h => by cases h.2.2)]
            exact dsRobust_sign true F hl k s m h h1 h2 h3 rfl
    · rw [if_neg (fun h => h1 h.1)]
      exact dsRobust_range b F hl k s m h h1
  · rw [if_neg h]
    exact dsRobust_form b F hl k s m h
set_option maxRecDepth 100000 in
set_option maxHeartbeats 4000000 in
theorem lt_awake_any (w : World) : Calls Tryz.prog 10 #[] w fun e w' => e = .returned (.bool true) ∧ Below w.heap.size w w' := by
  have hB := Below.refl w.heap.size w
  go_enter Tryz.func10, Tryz.ntmps10
  go_wp2_with fail
  have hk := tsIdeal_any 3 60 w
  rw [show idealS 3 60 = ([20, 30, 10], 0) by decide +kernel] at hk
  refine (hk).mono ?_
  rintro e w1 ⟨a1, n1, c1, rfl, Z1, hb⟩
  clear hk
  dsimp only at Z1 ⊢
  obtain rfl : n1 = 3 := Z1.len.1
  replace hB := hB.trans (hb.mono hB.size)
  have zz1 := hb.size
  have zh1 := hB.size
  clear hb
  go_wp2_with fail
  refine (lt_part_any 1 4 (by decide) (by decide) (by decide) _).mono ?_
  rintro e w2 ⟨g2, a2, c2, x2, e2, t2, y2, rfl, F2, P2, I2, hb⟩
  replace I2 : Is g2 x2 y2 (Rat.divInt 1 4) (1) := I2.mono (by omega)
  replace Z1 := Z1.below hb
  replace hB := hB.trans (hb.mono hB.size)
  have zz2 := hb.size
  have zh2 := hB.size
  clear hb
  go_wp2_with fail
  have hk := tsRobust_any g2 (F2.mono (Nat.zero_le _)) ⟨by have := I2.lu; omega, by have := I2.ld; omega⟩ 3 60 2
  rw [robustS_is I2 F2.up.words F2.down.words, show robQ (Rat.divInt 1 4) 3 60 2 = ([50, 45, 10], 0) by decide +kernel] at hk
  refine (hk).mono ?_
  rintro e w3 ⟨a3, n3, c3, rfl, Z3, hb⟩
  clear hk
  dsimp only at Z3 ⊢
  obtain rfl : n3 = 3 := Z3.len.1
  replace Z1 := Z1.below hb
  replace F2 := F2.below hb
  replace hB := hB.trans (hb.mono hB.size)
  have zz3 := hb.size
  have zh3 := hB.size
  clear hb
  clear I2
  clear F2
  have hs0 := Nat.le_refl w3.heap.size
  have hq := below_new w3 (.cells #[.int .i64 20, .int .i64 30, .int .i64 10] 3)
  replace Z1 := Z1.below hq
  replace Z3 := Z3.below hq
  have L4 := Box.put (w := w3) (k := (w3.heap.size)) (.cells #[.int .i64 20, .int .i64 30, .int .i64 10] 3) rfl
  replace hs0 := Nat.le_trans hs0 hq.size
  replace hB := hB.trans (hq.mono hB.size)
  clear hq
  go_wp2_with fail
  obtain ⟨u4, hname⟩ := nm hB
  rw [hname] at hs0 hB Z1 Z3 L4 ⊢
  have zh4 := hB.size
  have zs4 := hs0
  clear hname hs0
  have Z4 := intz_box L4 [20, 30, 10] (by unfold Nums; decide) rfl rfl
  have hk := lt_is_any Z1 Z4 (by decide) 0
  rw [decide_eq_true ⟨rfl, rfl⟩] at hk
  refine (hk).mono ?_
  rintro e w5 ⟨rfl, hb⟩
  replace Z1 := Z1.below hb
  replace Z3 := Z3.below hb
  replace L4 := L4.below hb
  replace hB := hB.trans (hb.mono hB.size)
  have zz5 := hb.size
  have zh5 := hB.size
  clear hb
  clear hk
  clear Z4
  clear L4
  clear Z1
  have hs0 := Nat.le_refl w5.heap.size
  have hq := below_new w5 (.cells #[.int .i64 50, .int .i64 45, .int .i64 10] 3)
  replace Z3 := Z3.below hq
  have L5 := Box.put (w := w5) (k := (w5.heap.size)) (.cells #[.int .i64 50, .int .i64 45, .int .i64 10] 3) rfl
  replace hs0 := Nat.le_trans hs0 hq.size
  replace hB := hB.trans (hq.mono hB.size)
  clear hq
  go_wp2_with fail
  obtain ⟨u6, hname⟩ := nm hB
  rw [hname] at hs0 hB Z3 L5 ⊢
  have zh6 := hB.size
  have zs6 := hs0
  clear hname hs0
  have Z5 := intz_box L5 [50, 45, 10] (by unfold Nums; decide) rfl rfl
  have hk := lt_is_any Z3 Z5 (by decide) 0
  rw [decide_eq_true ⟨rfl, rfl⟩] at hk
  refine (hk).mono ?_
  rintro e w7 ⟨rfl, hb⟩
  replace Z3 := Z3.below hb
  replace L5 := L5.below hb
  replace hB := hB.trans (hb.mono hB.size)
  have zz7 := hb.size
  have zh7 := hB.size
  clear hb
  clear hk
  clear Z5
  clear L5
  clear Z3
  have hs0 := Nat.le_refl w7.heap.size
  have hq := below_new w7 (.cells #[.int .i64 1, .int .i64 2, .int .i64 4] 3)
  have L6 := Box.put (w := w7) (k := (w7.heap.size)) (.cells #[.int .i64 1, .int .i64 2, .int .i64 4] 3) rfl
  replace hs0 := Nat.le_trans hs0 hq.size
  replace hB := hB.trans (hq.mono hB.size)
  clear hq
  go_wp2_with fail
  obtain ⟨u8, hname⟩ := nm hB
  rw [hname] at hs0 hB L6 ⊢
  have zh8 := hB.size
  have zs8 := hs0
  clear hname hs0
  have Z6 := intz_box L6 [1, 2, 4] (by unfold Nums; decide) rfl rfl
  have hk := tstotal_any Z6 (by decide)
  rw [show totT [1, 2, 4] = 7 by decide +kernel] at hk
  refine (hk).mono ?_
  rintro e w9 ⟨rfl, hb⟩
  replace L6 := L6.below hb
  replace hB := hB.trans (hb.mono hB.size)
  have zz9 := hb.size
  have zh9 := hB.size
  clear hb
  clear hk
  clear Z6
  clear L6
  have hs0 := Nat.le_refl w9.heap.size
  have hq := below_new w9 (.cells #[.int .i64 5] 3)
  have L7 := Box.put (w := w9) (k := (w9.heap.size)) (.cells #[.int .i64 5] 3) rfl
  replace hs0 := Nat.le_trans hs0 hq.size
  replace hB := hB.trans (hq.mono hB.size)
  clear hq
  go_wp2_with fail
  obtain ⟨u10, hname⟩ := nm hB
  rw [hname] at hs0 hB L7 ⊢
  have zh10 := hB.size
  have zs10 := hs0
  clear hname hs0
  have Z7 := intz_box L7 [5] (by unfold Nums; decide) rfl rfl
  have hk := tscheck_any Z7 1
  rw [show chkT [5] 1 = 0 by decide +kernel] at hk
  refine (hk).mono ?_
  rintro e w11 ⟨rfl, hb⟩
  replace L7 := L7.below hb
  replace hB := hB.trans (hb.mono hB.size)
  have zz11 := hb.size
  have zh11 := hB.size
  clear hb
  clear hk
  clear Z7
  clear L7
  go_wp2
  go_ret
  exact ⟨rfl, hB⟩
theorem tblS_len (zs : List Int) : (tblS zs).1.length ≤ zs.length := by
  unfold tblS
  split
  · exact Nat.le_refl _
  · exact Nat.zero_le _
theorem idealS_len (k s : Int) : (idealS k s).1.length ≤ 65536 := by
  unfold idealS
  split
  · rename_i h
    have := tblS_len (wts s (idQ k) k.toNat)
    rw [wts_len] at this
    omega
  · exact Nat.zero_le _
theorem robustS_len (b : Bool) (xs ds : List Int) (k s m : Int) : (robustS b xs ds k s m).1.length ≤ 65536 := by
  unfold robustS
  split
  · split
    · rename_i h
      have := tblS_len (wts s (robF k m (ratL b xs ds)) k.toNat)
      rw [wts_len] at this
      omega
    · exact Nat.zero_le _
  · exact Nat.zero_le _
set_option maxRecDepth 100000 in
set_option maxHeartbeats 4000000 in
theorem ltmakes_far (b : Bool) (a : Option Addr) (xs : List Int) (ca : Nat) (c : Option Addr) (ds : List Int) (cc : Nat) (k s m : Int) (w : World) (h : 120 < k ∧ k ≤ 65536) :
    Calls Tryz.prog 3 #[.int .i64 k, .int .i64 s, .int .i64 m, .agg #[.bool b, .slice a xs.length ca, .slice c ds.length cc]] w fun e w' => e = .returned (.bool true) ∧ Below w.heap.size w w' := by
  have hf := fun W : World => lt_far_any k W
  rw [decide_eq_true h] at hf
  have HFR := hide hf
  clear hf
  clear h
  have hB := Below.refl w.heap.size w
  go_enter Tryz.func3, Tryz.ntmps3
  have hs0 := Nat.le_refl w.heap.size
  have hq := below_new w (.cells #[.bool b, .slice a xs.length ca, .slice c ds.length cc] 27)
  have E7 := Box.put (w := w) (k := (w.heap.size)) (.cells #[.bool b, .slice a xs.length ca, .slice c ds.length cc] 27) rfl
  replace hs0 := Nat.le_trans hs0 hq.size
  replace hB := hB.trans (hq.mono hB.size)
  clear hq
  go_wp2_with fail
  obtain ⟨u1, hname⟩ := nm hB
  rw [hname] at hs0 hB E7 ⊢
  have zh1 := hB.size
  have zs1 := hs0
  clear hname hs0
  refine (HFR.out _).mono ?_
  rintro e w2 ⟨rfl, hb⟩
  replace E7 := E7.below hb
  replace hB := hB.trans (hb.mono hB.size)
  have zz2 := hb.size
  have zh2 := hB.size
  clear hb
  go_wp2_with fail
  refine (lt_awake_any _).mono ?_
  rintro e w3 ⟨rfl, hb⟩
  replace E7 := E7.below hb
  replace hB := hB.trans (hb.mono hB.size)
  have zz3 := hb.size
  have zh3 := hB.size
  clear hb
  go_wp2
  go_ret
  exact ⟨rfl, hB⟩
set_option maxRecDepth 100000 in
set_option maxHeartbeats 4000000 in
theorem ltmakes_long (b : Bool) (a : Option Addr) (xs : List Int) (ca : Nat) (c : Option Addr) (ds : List Int) (cc : Nat) (k s m : Int) (w : World) (h : ¬ (120 < k ∧ k ≤ 65536)) (h2 : (4 : Int) < (xs.length : Int) ∨ (4 : Int) < (ds.length : Int)) :
    Calls Tryz.prog 3 #[.int .i64 k, .int .i64 s, .int .i64 m, .agg #[.bool b, .slice a xs.length ca, .slice c ds.length cc]] w fun e w' => e = .returned (.bool true) ∧ Below w.heap.size w w' := by
  have hf := fun W : World => lt_far_any k W
  rw [decide_eq_false h] at hf
  have HFR := hide hf
  clear hf
  have hf := fun W : World => longr_any b a xs ca c ds cc 4 W
  rw [decide_eq_true h2] at hf
  have HLR := hide hf
  clear hf
  clear h h2
  have hB := Below.refl w.heap.size w
  go_enter Tryz.func3, Tryz.ntmps3
  have hs0 := Nat.le_refl w.heap.size
  have hq := below_new w (.cells #[.bool b, .slice a xs.length ca, .slice c ds.length cc] 27)
  have E7 := Box.put (w := w) (k := (w.heap.size)) (.cells #[.bool b, .slice a xs.length ca, .slice c ds.length cc] 27) rfl
  replace hs0 := Nat.le_trans hs0 hq.size
  replace hB := hB.trans (hq.mono hB.size)
  clear hq
  go_wp2_with fail
  obtain ⟨u1, hname⟩ := nm hB
  rw [hname] at hs0 hB E7 ⊢
  have zh1 := hB.size
  have zs1 := hs0
  clear hname hs0
  refine (HFR.out _).mono ?_
  rintro e w2 ⟨rfl, hb⟩
  replace E7 := E7.below hb
  replace hB := hB.trans (hb.mono hB.size)
  have zz2 := hb.size
  have zh2 := hB.size
  clear hb
  obtain ⟨k0, k1, k2, f0, f1, f2⟩ := E7.three
  go_wp2_with fail
  clear k0 k1 k2 f0 f1 f2
  refine (HLR.out _).mono ?_
  rintro e w3 ⟨rfl, hb⟩
  replace E7 := E7.below hb
  replace hB := hB.trans (hb.mono hB.size)
  have zz3 := hb.size
  have zh3 := hB.size
  clear hb
  go_wp2_with fail
  refine (lt_awake_any _).mono ?_
  rintro e w4 ⟨rfl, hb⟩
  replace E7 := E7.below hb
  replace hB := hB.trans (hb.mono hB.size)
  have zz4 := hb.size
  have zh4 := hB.size
  clear hb
  go_wp2
  go_ret
  exact ⟨rfl, hB⟩
set_option maxRecDepth 100000 in
set_option maxHeartbeats 4000000 in
theorem ltmakes_main {a c : Option Addr} {ca cc : Nat} {xs ds : List Int} {w : World} (b : Bool) (F0 : Fr 0 w a ca xs c cc ds) (k s m : Int) (h : ¬ (120 < k ∧ k ≤ 65536)) (hl : xs.length ≤ 4 ∧ ds.length ≤ 4) :
    Calls Tryz.prog 3 #[.int .i64 k, .int .i64 s, .int .i64 m, .agg #[.bool b, .slice a xs.length ca, .slice c ds.length cc]] w fun e w' => e = .returned (.bool true) ∧ Below w.heap.size w w' := by
  have hf := fun W : World => lt_far_any k W
  rw [decide_eq_false h] at hf
  have HFR := hide hf
  clear hf
  have hf := fun W : World => longr_any b a xs ca c ds cc 4 W
  rw [decide_eq_false (show ¬ ((4 : Int) < (xs.length : Int) ∨ (4 : Int) < (ds.length : Int)) by omega)] at hf
  have HLR := hide hf
  clear hf
  have HI := hide (fun W : World => tsIdeal_any k s W)
  have HD := hide (fun W : World => dsIdeal_any k s W)
  have HR := hide (fun (a : Option Addr) (ca : Nat) (c : Option Addr) (cc : Nat) (W : World) (F : Fr 0 W a ca xs c cc ds) => tsRobust_any b F hl k s m)
  have HT := hide (fun (a : Option Addr) (ca : Nat) (c : Option Addr) (cc : Nat) (W : World) (F : Fr 0 W a ca xs c cc ds) => dsRobust_any b F hl k s m)
  have hp1 := idealS_len k s
  have hr1 := robustS_len b xs ds k s m
  obtain ⟨p, hp⟩ : ∃ p, idealS k s = p := ⟨_, rfl⟩
  obtain ⟨r, hr⟩ : ∃ r, robustS b xs ds k s m = r := ⟨_, rfl⟩
  rw [hp] at HI HD hp1
  rw [hr] at HR HT hr1
  clear hp hr h
  have hB := Below.refl w.heap.size w
  go_enter Tryz.func3, Tryz.ntmps3
  have hs0 := Nat.le_refl w.heap.size
  have hq := below_new w (.cells #[.bool b, .slice a xs.length ca, .slice c ds.length cc] 27)
  replace F0 := F0.below hq
  have E7 := Box.put (w := w) (k := (w.heap.size)) (.cells #[.bool b, .slice a xs.length ca, .slice c ds.length cc] 27) rfl
  replace hs0 := Nat.le_trans hs0 hq.size
  replace hB := hB.trans (hq.mono hB.size)
  clear hq
  go_wp2_with fail
  obtain ⟨u1, hname⟩ := nm hB
  rw [hname] at hs0 hB F0 E7 ⊢
  have zh1 := hB.size
  have zs1 := hs0
  clear hname hs0
  refine (HFR.out _).mono ?_
  rintro e w2 ⟨rfl, hb⟩
  replace F0 := F0.below hb
  replace E7 := E7.below hb
  replace hB := hB.trans (hb.mono hB.size)
  have zz2 := hb.size
  have zh2 := hB.size
  clear hb
  obtain ⟨k0, k1, k2, f0, f1, f2⟩ := E7.three
  go_wp2_with fail
  clear k0 k1 k2 f0 f1 f2
  refine (HLR.out _).mono ?_
  rintro e w3 ⟨rfl, hb⟩
  replace F0 := F0.below hb
  replace E7 := E7.below hb
  replace hB := hB.trans (hb.mono hB.size)
  have zz3 := hb.size
  have zh3 := hB.size
  clear hb
  obtain ⟨k0, k1, k2, f0, f1, f2⟩ := E7.three
  go_wp2_with fail
  clear k0 k1 k2 f0 f1 f2
  refine (copyr_any b F0 (by omega) (by omega)).mono ?_
  rintro e w4 ⟨a20, c20, e20, t20, rfl, F20, hb⟩
  replace F0 := F0.below hb
  replace E7 := E7.below hb
  replace hB := hB.trans (hb.mono hB.size)
  have zz4 := hb.size
  have zh4 := hB.size
  clear hb
  have qE7 := E7.lt
  have hs0 := Nat.le_refl w4.heap.size
  have hq := below_new w4 (.cells #[.bool b, .slice a20 xs.length c20, .slice e20 ds.length t20] 27)
  replace F0 := F0.below hq
  replace E7 := E7.below hq
  replace F20 := F20.below hq
  have E9 := Box.put (w := w4) (k := (w4.heap.size)) (.cells #[.bool b, .slice a20 xs.length c20, .slice e20 ds.length t20] 27) rfl
  replace hs0 := Nat.le_trans hs0 hq.size
  replace hB := hB.trans (hq.mono hB.size)
  clear hq
  go_wp2_with fail
  obtain ⟨u5, hname⟩ := nm hB
  rw [hname] at hs0 hB F0 E7 F20 E9 ⊢
  have zh5 := hB.size
  have zs5 := hs0
  clear hname hs0
  have F0_M := F0
  have E7_M := E7
  have F20_M := F20
  have E9_M := E9
  have hM := Below.refl u5.heap.size u5
  refine (HI.out _).mono ?_
  rintro e w6 ⟨a1, n1, c1, rfl, Z1, hb⟩
  have v1 := hide Z1.len.1
  have z1 := hide Z1.block
  replace F0 := F0.below hb
  replace E7 := E7.below hb
  replace F20 := F20.below hb
  replace E9 := E9.below hb
  replace hB := hB.trans (hb.mono hB.size)
  replace hM := hM.trans (hb.mono hM.size)
  have zz6 := hb.size
  have zh6 := hB.size
  clear hb
  go_wp2_with fail
  refine (HD.out _).mono ?_
  rintro e w7 ⟨a2, n2, c2, rfl, Z2, hb⟩
  have v2 := hide Z2.len.1
  have z2 := hide Z2.block
  replace F0 := F0.below hb
  replace E7 := E7.below hb
  replace F20 := F20.below hb
  replace E9 := E9.below hb
  replace Z1 := Z1.below hb
  replace hB := hB.trans (hb.mono hB.size)
  replace hM := hM.trans (hb.mono hM.size)
  have zz7 := hb.size
  have zh7 := hB.size
  clear hb
  obtain ⟨k0, k1, k2, f0, f1, f2⟩ := E9.three
  go_wp2_with fail
  clear k0 k1 k2 f0 f1 f2
  refine (HR.out _ _ _ _ _ (F20.mono (Nat.zero_le _))).mono ?_
  rintro e w8 ⟨a3, n3, c3, rfl, Z3, hb⟩
  have v3 := hide Z3.len.1
  have z3 := hide Z3.block
  replace F0 := F0.below hb
  replace E7 := E7.below hb
  replace F20 := F20.below hb
  replace E9 := E9.below hb
  replace Z1 := Z1.below hb
  replace Z2 := Z2.below hb
  replace hB := hB.trans (hb.mono hB.size)
  replace hM := hM.trans (hb.mono hM.size)
  have zz8 := hb.size
  have zh8 := hB.size
  clear hb
  obtain ⟨k0, k1, k2, f0, f1, f2⟩ := E7.three
  go_wp2_with fail
  clear k0 k1 k2 f0 f1 f2
  refine (HT.out _ _ _ _ _ F0).mono ?_
  rintro e w9 ⟨a4, n4, c4, rfl, Z4, hb⟩
  have v4 := hide Z4.len.1
  have z4 := hide Z4.block
  replace F0 := F0.below hb
  replace E7 := E7.below hb
  replace F20 := F20.below hb
  replace E9 := E9.below hb
  replace Z1 := Z1.below hb
  replace Z2 := Z2.below hb
  replace Z3 := Z3.below hb
  replace hB := hB.trans (hb.mono hB.size)
  replace hM := hM.trans (hb.mono hM.size)
  have zz9 := hb.size
  have zh9 := hB.size
  clear hb
  go_wp2_with fail
  have hk := sameints_any Z1 Z2 (by have := v1.out; omega)
  rw [decide_eq_true rfl] at hk
  refine (hk).mono ?_
  rintro e w10 ⟨rfl, hb⟩
  replace F0 := F0.below hb
  replace E7 := E7.below hb
  replace F20 := F20.below hb
  replace E9 := E9.below hb
  replace Z1 := Z1.below hb
  replace Z2 := Z2.below hb
  replace Z3 := Z3.below hb
  replace Z4 := Z4.below hb
  replace hB := hB.trans (hb.mono hB.size)
  replace hM := hM.trans (hb.mono hM.size)
  have zz10 := hb.size
  have zh10 := hB.size
  clear hb
  clear hk
  go_wp2_with fail
  have hk := sameints_any Z3 Z4 (by have := v3.out; omega)
  rw [decide_eq_true rfl] at hk
  refine (hk).mono ?_
  rintro e w11 ⟨rfl, hb⟩
  replace F0 := F0.below hb
  replace E7 := E7.below hb
  replace F20 := F20.below hb
  replace E9 := E9.below hb
  replace Z1 := Z1.below hb
  replace Z2 := Z2.below hb
  replace Z3 := Z3.below hb
  replace Z4 := Z4.below hb
  replace hB := hB.trans (hb.mono hB.size)
  replace hM := hM.trans (hb.mono hM.size)
  have zz11 := hb.size
  have zh11 := hB.size
  clear hb
  clear hk
  go_wp2_with fail
  refine (overi_any Z1 (by have := v1.out; omega) w6.heap.size z1.out).mono ?_
  rintro e o1 ⟨rfl, hov, hst⟩
  replace Z3 := Z3.above (fun k hk => hst k (by omega)) hov.size
  replace hB := hB.trans (hov.mono (by omega))
  replace hM := hM.trans (hov.mono (by omega))
  have zo1 := hov.size
  have zp1 := hB.size
  clear hov hst
  clear F0 E7 F20 E9 Z1 Z2 Z4
  go_wp2_with fail
  refine (overi_any Z3 (by have := v3.out; omega) w8.heap.size z3.out).mono ?_
  rintro e o2 ⟨rfl, hov, hst⟩
  replace hB := hB.trans (hov.mono (by omega))
  replace hM := hM.trans (hov.mono (by omega))
  have zo3 := hov.size
  have zp3 := hB.size
  clear hov hst
  clear Z3
  have E7 := E7_M.below hM
  have E9 := E9_M.below hM
  have F20 := F20_M.below hM
  have F0 := F0_M.below hM
  obtain ⟨k0, k1, k2, f0, f1, f2⟩ := E7.three
  obtain ⟨k3, k4, k5, f3, f4, f5⟩ := E9.three
  go_wp2_with fail
  clear k0 k1 k2 f0 f1 f2 k3 k4 k5 f3 f4 f5
  refine (samer_yes b F20 F0 (by omega) (by omega)).mono ?_
  rintro e w12 ⟨rfl, hb⟩
  replace E7 := E7.below hb
  replace E9 := E9.below hb
  replace F20 := F20.below hb
  replace F0 := F0.below hb
  replace hB := hB.trans (hb.mono hB.size)
  replace hM := hM.trans (hb.mono hM.size)
  have zz12 := hb.size
  have zh12 := hB.size
  clear hb
  go_wp2_with fail
  refine (lt_awake_any _).mono ?_
  rintro e w13 ⟨rfl, hb⟩
  replace E7 := E7.below hb
  replace E9 := E9.below hb
  replace F20 := F20.below hb
  replace F0 := F0.below hb
  replace hB := hB.trans (hb.mono hB.size)
  replace hM := hM.trans (hb.mono hM.size)
  have zz13 := hb.size
  have zh13 := hB.size
  clear hb
  go_wp2
  go_ret
  exact ⟨rfl, hB⟩
theorem ltmakes_any {lo : Nat} {a c : Option Addr} {ca cc : Nat} {xs ds : List Int} {w : World} (k : Int) (_ : -9223372036854775808 ≤ k ∧ k ≤ 9223372036854775807) (s : Int) (_ : -9223372036854775808 ≤ s ∧ s ≤ 9223372036854775807) (m : Int) (_ : -9223372036854775808 ≤ m ∧ m ≤ 9223372036854775807) (b : Bool) (F : Fr lo w a ca xs c cc ds) :
    Calls Tryz.prog 3 #[.int .i64 k, .int .i64 s, .int .i64 m, .agg #[.bool b, .slice a xs.length ca, .slice c ds.length cc]] w fun e w' => e = .returned (.bool true) ∧ Below w.heap.size w w' := by
  by_cases h : 120 < k ∧ k ≤ 65536
  · exact ltmakes_far b a xs ca c ds cc k s m w h
  · by_cases h2 : (4 : Int) < (xs.length : Int) ∨ (4 : Int) < (ds.length : Int)
    · exact ltmakes_long b a xs ca c ds cc k s m w h h2
    · exact ltmakes_main b (F.mono (Nat.zero_le _)) k s m h (by omega)
end Go.Proofs.YtejocefblpkdjaaGreat
