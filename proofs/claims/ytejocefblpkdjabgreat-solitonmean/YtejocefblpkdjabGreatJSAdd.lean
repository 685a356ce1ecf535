/-
  Joined: SAdd SInts SRow SCheck SNon SOwn SPart SParts STog SWeigh SFill SDoca SMean SDocb SMake SDocr SFar SWords SAwake SMeans.
-/
import Derived.Test.YtejocefblpkdjabGreatJRatB
import Derived.Test.YtejocefblpkdjabGreatSKit
import Derived.Test.YtejocefblpkdjabGreatJRMulB
import Derived.OwnWalk
import Derived.Maps.AppendAt
namespace Go.Proofs.YtejocefblpkdjabGreat
open Go.RowKit
set_option maxRecDepth 100000 in
set_option maxHeartbeats 1000000 in
theorem tswithin_any (n lo hi : Int) (w : World) :
    Calls Tryz.prog 15 #[.int .i64 n, .int .i64 lo, .int .i64 hi] w fun e w' => e = .returned (.bool (decide (lo ≤ n ∧ n ≤ hi))) ∧ Below w.heap.size w w' := by
  by_cases h1 : lo ≤ n
  · by_cases h2 : n ≤ hi
    · rw [decide_eq_true ⟨h1, h2⟩]
      go_enter Tryz.func15, Tryz.ntmps15
      go_wp2
      go_ret
      exact ⟨rfl, Below.refl _ _⟩
    · rw [decide_eq_false (fun h => h2 h.2)]
      go_enter Tryz.func15, Tryz.ntmps15
      go_wp2
      go_ret
      exact ⟨rfl, Below.refl _ _⟩
  · rw [decide_eq_false (fun h => h1 h.1)]
    go_enter Tryz.func15, Tryz.ntmps15
    go_wp2
    go_ret
    exact ⟨rfl, Below.refl _ _⟩
def addF (g : Nat) : Value := .func (.func 29) #[] #[.pointer (some ⟨g, 0, none⟩)]
set_option maxRecDepth 100000 in
set_option maxHeartbeats 1000000 in
theorem tsadder_any (w : World) :
    Calls Tryz.prog 16 #[] w fun e w' => e = .returned (.func (.func 29) #[] #[.pointer (some ⟨w.heap.size, 0, none⟩)]) ∧ Box w' w.heap.size (.cells #[.int .i64 0] 3) ∧ Below w.heap.size w w' := by
  have hmf : ∀ (fn : Fn) (first cap : Array Value) (w : World), (Instr.makeFunc fn first cap).run Tryz.prog w = .ok (.func fn first cap) w := fun _ _ _ _ => rfl
  have HE := hide (Box.new w (.cells #[.int .i64 0] 3))
  have HB := hide (below_new w (.cells #[.int .i64 0] 3))
  go_enter Tryz.func16, Tryz.ntmps16
  go_wp2
  go_ret
  exact ⟨rfl, HE.out, HB.out⟩
set_option maxRecDepth 100000 in
set_option maxHeartbeats 1000000 in
theorem tsadder1_any (x s : Int) (g : Nat) (w : World) (E : Box w g (.cells #[.int .i64 s] 3)) :
    Calls Tryz.prog 29 #[.int .i64 x, .pointer (some ⟨g, 0, none⟩)] w fun e w' => e = .returned (.int .i64 (wrap64 (s + x))) ∧ w' = w.setCell ⟨g, 0, none⟩ (.int .i64 (wrap64 (s + x))) ∧ Box w' g (.cells #[.int .i64 (wrap64 (s + x))] 3) := by
  obtain ⟨k0, f0⟩ := E.one
  have HE := hide (E.set1 (.int .i64 (wrap64 (s + x))))
  clear E
  go_enter Tryz.func29, Tryz.ntmps29
  go_wp2
  go_ret
  exact ⟨rfl, rfl, HE.out⟩
theorem OwnI.below {lo : Nat} {W W' : World} {v : Value} {zs : List Int} (h : OwnI lo W v zs) (hb : Below W.heap.size W W') : OwnI lo W' v zs :=
  ⟨World.ownsRow.kept h.1 (row := none) ⟨hb.os, hb.tape, hb.output, hb.size, fun k hk _ => hb.block k hk⟩ (by cases hv : v.ownBlock <;> simp), h.2⟩
theorem intz_zeros (n : Nat) (w : World) : Intz w.heap.size (w.alloc (.cells (madeCells (Value.int .i64 0).cells (n * 1)) 3)) (.slice (some ⟨w.heap.size, 0, none⟩) n n) (List.replicate n 0) := by
  have hh : (w.alloc (.cells (madeCells (Value.int .i64 0).cells (n * 1)) 3)).heap[w.heap.size]? = some (.cells (madeCells (Value.int .i64 0).cells (n * 1)) 3 (0, 0)) := World.alloc_heap_new w _
  have hl : (List.replicate n (0 : Int)).length = n := List.length_replicate
  refine ⟨Nums.zeros n, _, _, by rw [hl], by rw [hl]; exact Nat.le_refl _, fun _ => ⟨_, 0, rfl, Nat.le_refl _, by simp, fun j hj => ?_, fun j _ => frozen_of_heap hh _⟩⟩
  rw [hl] at hj
  rw [cell_of_heap hh, Nat.zero_add]
  simp [madeCells, Value.cells, Nat.mod_one, hj]
theorem intz_make (n : Nat) (hn : n ≤ 100000) : ∃ Z : Obj, (∀ w : World, (Instr.makeSlice 22 (.int .i64 n) (.int .i64 n)).run Tryz.prog w = .ok (.slice (some ⟨w.heap.size, 0, none⟩) n n) (w.alloc Z)) ∧ (∀ w : World, Intz w.heap.size (w.alloc Z) (.slice (some ⟨w.heap.size, 0, none⟩) n n) (List.replicate n 0)) := by
  obtain ⟨i0, hi, hz0, hz1, hz2⟩ := info_parts infoI64
  refine ⟨.cells (madeCells (Value.int .i64 0).cells (n * 1)) 3, fun w => ?_, intz_zeros n⟩
  have := run_make (P := Tryz.prog) w 22 3 i0 (.int .i64 0) Tryz.underlying22 hi hz0 .i64 .i64 n n (by omega) (Int.le_refl _) (by rw [hz2]; omega) (by omega)
  rw [Int.toNat_natCast, hz1] at this
  exact this
theorem Intz.turns {lo b g o len cap : Nat} {A B : World} {zs : List Int} (h : Intz lo A (.slice (some ⟨g, o, none⟩) len cap) zs) (ht : Turns b A B) (hg : g ≠ b) : Intz lo B (.slice (some ⟨g, o, none⟩) len cap) zs := by
  obtain ⟨hw, a, cap', e, h1, h3⟩ := h
  refine ⟨hw, a, cap', e, h1, fun hz => ?_⟩
  obtain ⟨b', off, e1, e2, e3, e4, e5⟩ := h3 hz
  simp only [Value.slice.injEq] at e
  obtain ⟨ea, _, _⟩ := e
  rw [e1] at ea
  simp only [Option.some.injEq, Addr.mk.injEq] at ea
  obtain ⟨rfl, rfl, _⟩ := ea
  have hh := ht.other g hg e3
  exact ⟨g, o, e1, e2, Nat.lt_of_lt_of_le e3 ht.below.size, fun j hj => (World.cell?_of_block (a := ⟨g, o + j, none⟩) hh).trans (e4 j hj), fun j hj => (World.frozen?_of_block (a := ⟨g, o + j, none⟩) hh).trans (e5 j hj)⟩
theorem set_zeros {xs : List Int} {n i : Nat} (hx : xs.length = i) (hi : i < n) (v : Int) : (xs ++ List.replicate (n - i) 0).set i v = (xs ++ [v]) ++ List.replicate (n - (i + 1)) 0 := by
  subst hx
  rw [List.set_append_right _ _ (Nat.le_refl _), Nat.sub_self, show n - xs.length = (n - (xs.length + 1)) + 1 by omega, List.replicate_succ, List.set_cons_zero, List.append_assoc]
  rfl
def Yield.row (L m : Nat) (Q : List Rat) : Yield := .rel (fun v W => ∃ (k : Nat) (rs : List RV), v = .slice (some ⟨k, 0, none⟩) L L ∧ rs.length = L ∧ Row 0 W (some ⟨k, 0, none⟩) rs ∧ (∀ r ∈ rs, r.xs.length ≤ m ∧ r.ds.length ≤ m) ∧ (∀ r ∈ rs, formR r.b r.xs r.ds = 0) ∧ rs.map RV.q = Q)
  (fun _ _ _ hb ⟨k, rs, e, l, r, h⟩ => ⟨k, rs, e, l, r.below hb, h⟩)
theorem Yield.row_elim {L m : Nat} {Q : List Rat} {v : Value} {W : World} (P : Prop) (h : (Yield.row L m Q).At v W) (k : ∀ (k : Nat) (rs : List RV), v = .slice (some ⟨k, 0, none⟩) L L → rs.length = L → Row 0 W (some ⟨k, 0, none⟩) rs → (∀ r ∈ rs, r.xs.length ≤ m ∧ r.ds.length ≤ m) → (∀ r ∈ rs, formR r.b r.xs r.ds = 0) → rs.map RV.q = Q → P) : P := by
  obtain ⟨a, b, h1, h2, h3, h4, h5, h6⟩ := h; exact k a b h1 h2 h3 h4 h5 h6
theorem Yield.row_two {V : World} {q s : Rat} {n m N : Nat} (r t : RV) (F : Fr 0 V r.a r.ca r.xs r.c r.cc r.ds) (I : Is r.b r.xs r.ds q n) (G : Fr 0 V t.a t.ca t.xs t.c t.cc t.ds) (J : Is t.b t.xs t.ds s m) (hn : n ≤ N) (hm : m ≤ N) :
    (Yield.row 2 N [q, s]).At (.slice (some ⟨V.heap.size, 0, none⟩) 2 2) (V.alloc (.cells #[.bool r.b, .slice r.a r.xs.length r.ca, .slice r.c r.ds.length r.cc, .bool t.b, .slice t.a t.xs.length t.ca, .slice t.c t.ds.length t.cc] 31)) := by
  have hb := below_new V (.cells #[.bool r.b, .slice r.a r.xs.length r.ca, .slice r.c r.ds.length r.cc, .bool t.b, .slice t.a t.xs.length t.ca, .slice t.c t.ds.length t.cc] 31)
  have E := Box.new V (.cells #[.bool r.b, .slice r.a r.xs.length r.ca, .slice r.c r.ds.length r.cc, .bool t.b, .slice t.a t.xs.length t.ca, .slice t.c t.ds.length t.cc] 31)
  refine ⟨V.heap.size, [r, t], rfl, rfl, row_box E (fun x hx => ?_), fun x hx => ?_, fun x hx => ?_, ?_⟩
  · simp only [List.mem_cons, List.not_mem_nil, or_false] at hx
    rcases hx with rfl | rfl
    · exact F.below hb
    · exact G.below hb
  · simp only [List.mem_cons, List.not_mem_nil, or_false] at hx
    rcases hx with rfl | rfl
    · exact ⟨Nat.le_trans I.lu hn, Nat.le_trans I.ld hn⟩
    · exact ⟨Nat.le_trans J.lu hm, Nat.le_trans J.ld hm⟩
  · simp only [List.mem_cons, List.not_mem_nil, or_false] at hx
    rcases hx with rfl | rfl
    · exact I.good F.up.words F.down.words
    · exact J.good G.up.words G.down.words
  · simp only [List.map, RV.q, I.rat, J.rat]
theorem mulQ_map (rs : List RV) {Q : List Rat} (h : rs.map RV.q = Q) : mulQ rs = Q.foldl (· * ·) 1 := by
  subst h
  rw [mulQ, List.foldl_map]
theorem sumQ_map (rs : List RV) {Q : List Rat} (h : rs.map RV.q = Q) : sumQ rs = Q.foldl (· + ·) 0 := by
  subst h
  rw [sumQ, List.foldl_map]
def Yield.fro (q : Rat) (n : Nat) : Yield := .rel (fun v W => ∃ (b : Bool) (a : Option Addr) (ca : Nat) (xs : List Int) (c : Option Addr) (cc : Nat) (ds : List Int), v = .agg #[.bool b, .slice a xs.length ca, .slice c ds.length cc] ∧ Fr 0 W a ca xs c cc ds ∧ Is b xs ds q n)
  (fun _ _ _ hb ⟨b, a, ca, xs, c, cc, ds, e, s, r⟩ => ⟨b, a, ca, xs, c, cc, ds, e, s.below hb, r⟩)
theorem pmul_row {L m k : Nat} {Q : List Rat} {rs : List RV} {w : World} (hL : rs.length = L) (R : Row 0 w (some ⟨k, 0, none⟩) rs) (hlen : ∀ r ∈ rs, r.xs.length ≤ m ∧ r.ds.length ≤ m) (hg : ∀ r ∈ rs, formR r.b r.xs r.ds = 0) (hq : rs.map RV.q = Q) (h6 : L ≤ 6) (hm : m ≤ 40) :
    Calls Tryz.prog 58 #[.slice (some ⟨k, 0, none⟩) L L] w fun e w' => ∃ (b' : Bool) (a' : Option Addr) (ca' : Nat) (ts' : List Int) (c' : Option Addr) (cc' : Nat) (es' : List Int), e = .returned (.tuple #[.agg #[.bool b', .slice a' ts'.length ca', .slice c' es'.length cc'], .int .i64 0]) ∧ Fr w.heap.size w' a' ca' ts' c' cc' es' ∧ Apart a' c' ts' es' ∧ Is b' ts' es' (Q.foldl (· * ·) 1) (1 + L * (m + 1)) ∧ Below w.heap.size w w' := by
  subst hL
  have := pmul_ok (cap := rs.length) R h6 hlen hm hg
  rw [mulQ_map rs hq] at this
  exact this
theorem two_mul (s q : Rat) : [s, q].foldl (· * ·) 1 = s * q := by simp only [List.foldl]; rw [Rat.one_mul]
def wv (s : Int) (q : Rat) : Int := if -9223372036854775808 ≤ wtQ s q ∧ wtQ s q < 9223372036854775808 then wtQ s q else 0
def wf (s : Int) (q : Rat) : Bool := decide (-9223372036854775808 ≤ wtQ s q ∧ wtQ s q ≤ 16777215)
def wd (s : Int) (q : Rat) : Int := if -9223372036854775808 ≤ wtQ s q ∧ wtQ s q < 9223372036854775808 then wtQ s q else -1
theorem take_snoc {zs : List Int} {i : Nat} (h : i < zs.length) : zs.take (i + 1) = zs.take i ++ [zs[i]?.getD 0] := by
  rw [List.take_add_one, List.getElem?_eq_getElem h]
  rfl
theorem mem_getD {zs : List Int} {z : Int} (h : z ∈ zs) : ∃ j, j < zs.length ∧ zs[j]?.getD 0 = z := by
  obtain ⟨j, hj, e⟩ := List.getElem_of_mem h
  exact ⟨j, hj, by rw [List.getElem?_eq_getElem hj, e]; rfl⟩
theorem getD_mem {zs : List Int} {j : Nat} (h : j < zs.length) : zs[j]?.getD 0 ∈ zs := by
  rw [List.getElem?_eq_getElem h]
  exact List.getElem_mem h
set_option maxRecDepth 100000 in
set_option maxHeartbeats 1000000 in
theorem tstotal_any {lo : Nat} {a : Option Addr} {n c : Nat} {zs : List Int} {w : World} (X : Intz lo w (.slice a n c) zs) (hl : n ≤ 17592186044416) :
    Calls Tryz.prog 14 #[.slice a n c] w fun e w' => e = .returned (.int .i64 (totT zs)) ∧ Below w.heap.size w w' := by
  have hn := X.len.1
  have HX := hide X
  have HT : Hid (∀ i, i < n → totT (zs.take (i + 1)) = wrap64 (totT (zs.take i) + zs[i]?.getD 0)) := fun i hi => by rw [take_snoc (by omega), totT_snoc]
  have HE : Hid (totT (zs.take n) = totT zs) := by rw [Hid, hn, List.take_length]
  have HW : Hid (wrap64 (totT zs + 0) = totT zs) := by
    rw [Hid, Int.add_zero]
    have : ∃ y, totT zs = wrap64 y ∨ totT zs = 0 := by
      rcases List.eq_nil_or_concat zs with h | ⟨ys, y, h⟩
      · exact ⟨0, Or.inr (by rw [h]; rfl)⟩
      · exact ⟨_, Or.inl (by rw [h, List.concat_eq_append]; exact totT_snoc ys y)⟩
    obtain ⟨y, h | h⟩ := this
    · rw [h]; unfold wrap64; omega
    · rw [h]; unfold wrap64; omega
  have hc := tsadder_any w
  clear X hn
  go_enter Tryz.func14, Tryz.ntmps14
  go_wp2_with fail
  refine hc.mono ?_
  rintro e w1 ⟨rfl, E1, b1⟩
  have HE1 := hide E1
  have HB1 := hide b1
  clear hc E1 b1
  go_wp2
  go_loopw [9] (fun iv wr => ∃ (i : Nat), i ≤ n ∧ iv = .int .i64 i ∧ Hid (Box wr w.heap.size (.cells #[.int .i64 (totT (zs.take i))] 3)) ∧ Hid (Below w.heap.size w wr)) (fun iv _ => n - (intOf iv).toNat)
  case atStart => exact ⟨0, Nat.zero_le _, rfl, HE1.out, HB1.out⟩
  case round =>
    clear HE1 HB1
    obtain ⟨i, hi, rfl, HE2, HB⟩ := hrel
    by_cases hik : i < n
    · have hki : (i : Int) < (n : Int) := by omega
      obtain ⟨b, o, rfl, _, _⟩ := HX.out.row (by omega)
      have hc1 := ((HX.out.below HB.out).cell (j := i) hik).1
      have hc := tsadder1_any (zs[i]?.getD 0) (totT (zs.take i)) w.heap.size wr HE2.out
      rw [← HT.out i hik] at hc
      generalize zs[i]?.getD 0 = x at *
      go_wp2_with fail
      refine hc.mono ?_
      rintro e w5 ⟨rfl, hw5, E5⟩
      have ht := (Turns.refl w.heap.size wr).setCell 0 (.int .i64 (totT (zs.take (i + 1))))
      rw [← hw5] at ht
      have HB5 := hide (HB.out.trans ht.below)
      have HE5 := hide E5
      clear hc hw5 E5 ht hc1 HB HE2
      go_wp2
      exact ⟨⟨i + 1, by omega, by go_num, HE5.out, HB5.out⟩, by simp [intOf]; omega⟩
    · obtain rfl : i = n := by omega
      have hc := tsadder1_any 0 (totT (zs.take i)) w.heap.size wr HE2.out
      rw [HE.out, HW.out] at hc
      go_wp2_with fail
      refine hc.mono ?_
      rintro e w5 ⟨rfl, hw5, E5⟩
      have ht := (Turns.refl w.heap.size wr).setCell 0 (.int .i64 (totT zs))
      rw [← hw5] at ht
      have HB5 := hide (HB.out.trans ht.below)
      clear hc hw5 E5 ht HB HE2
      go_wp2
      go_ret
      exact ⟨rfl, HB5.out⟩
set_option maxRecDepth 100000 in
set_option maxHeartbeats 1000000 in
theorem tscheck_any {lo : Nat} {a : Option Addr} {n c : Nat} {zs : List Int} {w : World} (X : Intz lo w (.slice a n c) zs) (k : Int) :
    Calls Tryz.prog 5 #[.slice a n c, .int .i64 k] w fun e w' => e = .returned (.int .i64 (chkT zs k)) ∧ Below w.heap.size w w' := by
  have hn := X.len.1
  have hc := tswithin_any k 1 65536 w
  by_cases hk : 1 ≤ k ∧ k ≤ 65536
  · rw [decide_eq_true hk] at hc
    by_cases hl : 1 ≤ (n : Int) ∧ (n : Int) ≤ k
    · have hX := hide X
      have HL : Hid (zs.length = n) := hn.symm
      have hT := hide (fun (W : World) (hb : Below w.heap.size w W) => tstotal_any (X.below hb) (by omega))
      have HM : Hid ((∀ i, i < n → 0 ≤ zs[i]?.getD 0 ∧ zs[i]?.getD 0 ≤ 16777215) → (¬ totT zs = 0 → chkT zs k = 0) ∧ (totT zs = 0 → chkT zs k = 13)) := fun h => by
        have hall : ∀ z ∈ zs, 0 ≤ z ∧ z ≤ 16777215 := fun z hz => by
          obtain ⟨j, hj, rfl⟩ := mem_getD hz
          exact h j (by omega)
        have ht := totT_sum hall (by omega)
        have h0 := sumI_zero (fun z hz => (hall z hz).1)
        rw [ht]
        refine ⟨fun hs => chkT_yes ⟨hk.1, hk.2, by omega, by omega, hall, ?_⟩, fun hs => chkT_no (fun hm => ?_)⟩
        · refine Classical.byContradiction fun hno => hs (h0.2 fun z hz => ?_)
          rcases Int.lt_or_le 0 z with g | g
          · exact absurd ⟨z, hz, g⟩ hno
          · exact g
        · obtain ⟨z, hz, g⟩ := hm.2.2.2.2.2
          have := h0.1 hs z hz
          omega
      have HN : Hid (∀ i, i < n → ¬ (0 ≤ zs[i]?.getD 0 ∧ zs[i]?.getD 0 ≤ 16777215) → chkT zs k = 13) := fun i hi h => chkT_no (fun hm => h (hm.2.2.2.2.1 _ (getD_mem (by omega))))
      obtain ⟨r, hr⟩ : ∃ r, chkT zs k = r := ⟨_, rfl⟩
      rw [hr] at HM HN ⊢
      obtain ⟨t, ht⟩ : ∃ t, totT zs = t := ⟨_, rfl⟩
      rw [ht] at HM hT
      clear X hn hr ht
      go_enter Tryz.func5, Tryz.ntmps5
      go_wp2_with fail
      refine hc.mono ?_
      rintro e w1 ⟨rfl, b1⟩
      have hc2 := tswithin_any (n : Int) 1 k w1
      rw [decide_eq_true hl] at hc2
      have HB1 := hide b1
      clear hc b1
      go_wp2_with fail
      refine hc2.mono ?_
      rintro e w2 ⟨rfl, b2⟩
      have HB2 := hide (HB1.out.trans (b2.mono HB1.out.size))
      clear hc2 b2 HB1
      go_wp2
      go_loopw [19] (fun iv wr => ∃ (i : Nat), i ≤ n ∧ iv = .int .i64 i ∧ Hid (Below w.heap.size w wr) ∧ Hid (∀ j, j < i → 0 ≤ zs[j]?.getD 0 ∧ zs[j]?.getD 0 ≤ 16777215)) (fun iv _ => n - (intOf iv).toNat)
      case atStart => exact ⟨0, Nat.zero_le _, rfl, HB2.out, fun j hj => absurd hj (Nat.not_lt_zero j)⟩
      case round =>
        clear HB2
        obtain ⟨i, hi, rfl, HB, HI⟩ := hrel
        by_cases hik : i < n
        · have hki : (i : Int) < (n : Int) := by omega
          obtain ⟨b, o, rfl, _, _⟩ := hX.out.row (by omega)
          have hc1 := ((hX.out.below HB.out).cell (j := i) hik).1
          have hN := HN.out i hik
          have HJ : Hid ((0 ≤ zs[i]?.getD 0 ∧ zs[i]?.getD 0 ≤ 16777215) → ∀ j, j < i + 1 → 0 ≤ zs[j]?.getD 0 ∧ zs[j]?.getD 0 ≤ 16777215) := fun h j hj => by
            by_cases e : j = i
            · subst e; exact h
            · exact HI.out j (by omega)
          generalize zs[i]?.getD 0 = x at hc1 hN HJ
          have hc := tswithin_any x 0 16777215 wr
          by_cases hx : 0 ≤ x ∧ x ≤ 16777215
          · rw [decide_eq_true hx] at hc
            have HJ2 := hide (HJ.out hx)
            clear HJ hN HI
            go_wp2_with fail
            refine hc.mono ?_
            rintro e w3 ⟨rfl, b3⟩
            have HB3 := hide (HB.out.trans (b3.mono HB.out.size))
            clear hc b3 HB hc1
            go_wp2
            exact ⟨⟨i + 1, by omega, by go_num, HB3.out, HJ2.out⟩, by simp [intOf]; omega⟩
          · rw [decide_eq_false hx] at hc
            obtain rfl := hN hx
            clear HJ HI
            go_wp2_with fail
            refine hc.mono ?_
            rintro e w3 ⟨rfl, b3⟩
            have HB3 := hide (HB.out.trans (b3.mono HB.out.size))
            clear hc b3 HB hc1
            go_wp2
            go_ret
            exact ⟨rfl, HB3.out⟩
        · obtain rfl : i = n := by omega
          have hm := HM.out HI.out
          have hc := hT.out wr HB.out
          by_cases h0 : t = 0
          · obtain rfl := hm.2 h0
            subst h0
            clear hm
            go_wp2_with fail
            refine hc.mono ?_
            rintro e w3 ⟨rfl, b3⟩
            have HB3 := hide (HB.out.trans (b3.mono HB.out.size))
            clear hc b3 HB
            go_wp2
            go_ret
            exact ⟨rfl, HB3.out⟩
          · obtain rfl := hm.1 h0
            have hne : (t == 0) = false := beq_eq_false_iff_ne.2 h0
            clear hm
            go_wp2_with fail
            refine hc.mono ?_
            rintro e w3 ⟨rfl, b3⟩
            have HB3 := hide (HB.out.trans (b3.mono HB.out.size))
            clear hc b3 HB
            go_wp2
            go_ret
            exact ⟨rfl, HB3.out⟩
    · have hr : chkT zs k = 13 := chkT_no (fun hm => hl ⟨by have := hm.2.2.1; omega, by have := hm.2.2.2.1; omega⟩)
      rw [hr]
      clear hr X hn
      go_enter Tryz.func5, Tryz.ntmps5
      go_wp2_with fail
      refine hc.mono ?_
      rintro e w1 ⟨rfl, b1⟩
      have hc2 := tswithin_any (n : Int) 1 k w1
      rw [decide_eq_false hl] at hc2
      have HB1 := hide b1
      clear hc b1
      go_wp2_with fail
      refine hc2.mono ?_
      rintro e w2 ⟨rfl, b2⟩
      have HB2 := hide (HB1.out.trans (b2.mono HB1.out.size))
      clear hc2 b2 HB1
      go_wp2
      go_ret
      exact ⟨rfl, HB2.out⟩
  · rw [decide_eq_false hk] at hc
    have hr : chkT zs k = 13 := chkT_no (fun hm => hk ⟨hm.1, hm.2.1⟩)
    rw [hr]
    clear hr X hn
    go_enter Tryz.func5, Tryz.ntmps5
    go_wp2_with fail
    refine hc.mono ?_
    rintro e w1 ⟨rfl, b1⟩
    have HB1 := hide b1
    clear hc b1
    go_wp2
    go_ret
    exact ⟨rfl, HB1.out⟩
theorem rndQ_nonneg {q : Rat} (h : 0 ≤ q) : 0 ≤ rndQ q := by
  have hn : 0 ≤ q.num := Rat.num_nonneg.2 h
  have hd := q.den_pos
  unfold rndQ
  rw [if_neg (by omega)]
  exact roundN_ge (by omega) (by omega)
theorem divInt_nonneg {a b : Int} (ha : 0 ≤ a) (hb : 0 < b) : (0 : Rat) ≤ Rat.divInt a b := by
  rw [Rat.divInt_nonneg_iff_of_pos_right hb]
  exact ha
theorem wtQ_nonneg {s : Int} {q : Rat} (hs : 0 ≤ s) (hq : 0 ≤ q) : 0 ≤ wtQ s q := rndQ_nonneg (Rat.mul_nonneg (divInt_nonneg hs (by decide)) hq)
theorem idQ_nonneg {k d : Int} (hk : 1 ≤ k) (hd : 1 ≤ d) : 0 ≤ idQ k d := by
  unfold idQ
  split
  · exact divInt_nonneg (by decide) (by omega)
  · exact divInt_nonneg (by decide) (Int.mul_pos (by omega) (by omega))
theorem shQ_nonneg {m d : Int} {q : Rat} (hm : 1 ≤ m) (hd : 1 ≤ d) (hq : 0 ≤ q) : 0 ≤ shQ m q d := by
  unfold shQ
  split
  · exact divInt_nonneg (by decide) (Int.mul_pos (by omega) (by omega))
  · split
    · exact hq
    · exact divInt_nonneg (by decide) (by decide)
def wds (s : Int) (f : Int → Rat) : Nat → List Int
  | 0 => []
  | k + 1 => wds s f k ++ [wd s (f ((k : Int) + 1))]
def toldT (zs : List Int) (k : Int) : List Int × Int := if chkT zs k = 0 then (zs, 0) else ([], 13)
def idealS (k s : Int) : List Int × Int := if (1 ≤ k ∧ k ≤ 65536) ∧ 1 ≤ s ∧ s ≤ 16777215 then tblS (wts s (idQ k) k.toNat) else ([], 3)
def robF (k m : Int) (q : Rat) (d : Int) : Rat := idQ k d + shQ m q d
def robustS (b : Bool) (xs ds : List Int) (k s m : Int) : List Int × Int :=
  if formR b xs ds = 0 then (if ((1 ≤ k ∧ k ≤ 65536) ∧ 1 ≤ s ∧ s ≤ 16777215) ∧ (1 ≤ m ∧ m ≤ k) ∧ b = false then tblS (wts s (robF k m (ratL b xs ds)) k.toNat) else ([], 3)) else ([], 6)
theorem id_nonneg {k s : Int} (hk : 1 ≤ k) (hs : 1 ≤ s) (j : Nat) : 0 ≤ wtQ s (idQ k ((j : Int) + 1)) := wtQ_nonneg (by omega) (idQ_nonneg hk (by omega))
theorem rob_nonneg {k s m : Int} {q : Rat} (hk : 1 ≤ k) (hs : 1 ≤ s) (hm : 1 ≤ m) (hq : 0 ≤ q) (j : Nat) : 0 ≤ wtQ s (robF k m q ((j : Int) + 1)) := wtQ_nonneg (by omega) (Rat.add_nonneg (idQ_nonneg hk (by omega)) (shQ_nonneg hm (by omega) hq))
theorem ratL_nonneg {xs ds : List Int} (hx : Words xs) (hd : 0 < val ds) : (0 : Rat) ≤ ratL false xs ds := by
  have hv := val_nonneg hx
  unfold ratL sgn
  simp only [Bool.false_eq_true, if_false]
  exact divInt_nonneg hv hd
theorem infoRatio : ((Tryz.prog.info? 31).map fun i => (i.zero, i.size, i.bytes)) = some (some (.agg #[.bool false, .slice none 0 0, .slice none 0 0]), 3, 56) := by kernel_rfl
def OwnR (lo : Nat) (W : World) (v : Value) (rs : List RV) : Prop := W.ownsRow lo 31 3 v rs.length (rs.flatMap RV.cells)
theorem ownr_nil (lo : Nat) (W : World) : OwnR lo W (.slice none 0 0) [] := World.ownsRow_nil W lo _ _
theorem flat_at {r : RV} : ∀ (rs : List RV) (j : Nat), rs[j]? = some r → (rs.flatMap RV.cells)[j * 3]? = some (.bool r.b) ∧ (rs.flatMap RV.cells)[j * 3 + 1]? = some (.slice r.a r.xs.length r.ca) ∧ (rs.flatMap RV.cells)[j * 3 + 2]? = some (.slice r.c r.ds.length r.cc) := by
  intro rs
  induction rs with
  | nil => intro j hj; simp at hj
  | cons s rs ih =>
    intro j hj
    cases j with
    | zero =>
      simp only [lz5, Option.some.injEq] at hj
      subst hj
      exact ⟨rfl, rfl, rfl⟩
    | succ j =>
      simp only [lz6] at hj
      obtain ⟨h1, h2, h3⟩ := ih j hj
      have e1 : (j + 1) * 3 = j * 3 + 1 + 1 + 1 := by omega
      rw [List.flatMap_cons, e1]
      exact ⟨h1, h2, h3⟩
theorem ownr_append {lo : Nat} {w : World} {v : Value} {rs : List RV} (h : OwnR lo w v rs) (r : RV) (hl : rs.length ≤ 1000) (hlo : lo ≤ w.heap.size) :
    ∃ a' cap' w', (Builtin.append_ #[95, 95] 95 #[v, .slice (some ⟨w.heap.size, 0, none⟩) 1 1]).run Tryz.prog (w.alloc (.cells #[.bool r.b, .slice r.a r.xs.length r.ca, .slice r.c r.ds.length r.cc] 31)) = .ok (.slice a' (rs.length + 1) cap') w' ∧ OwnR lo w' (.slice a' (rs.length + 1) cap') (rs ++ [r]) ∧ (w.alloc (.cells #[.bool r.b, .slice r.a r.xs.length r.ca, .slice r.c r.ds.length r.cc] 31)).grownBy w' v.ownBlock ∧ ((Value.slice a' (rs.length + 1) cap').ownBlock = v.ownBlock ∨ (Value.slice a' (rs.length + 1) cap').ownBlock = some (w.heap.size + 1)) := by
  obtain ⟨i0, hi, hz0, hz1, hz2⟩ := info_parts infoRatio
  obtain ⟨v', w', hr, hown, hg, _, hat⟩ := run_append_own_at (P := Tryz.prog) (w.alloc (.cells #[.bool r.b, .slice r.a r.xs.length r.ca, .slice r.c r.ds.length r.cc] 31)) lo 95 95 31 i0 (.agg #[.bool false, .slice none 0 0, .slice none 0 0]) 3 56 Tryz.underlying95 hi hz0 hz1 hz2 rfl (by decide)
    v rs.length (rs.flatMap RV.cells) (World.ownsRow.alloc h _) ⟨w.heap.size, 0, none⟩ 1 1 r.cells rfl
    (fun j u hj => by
      rw [Addr.add_lit]
      have := cell_of_heap (World.alloc_heap_new w (.cells #[.bool r.b, .slice r.a r.xs.length r.ca, .slice r.c r.ds.length r.cc] 31)) j
      rw [Nat.zero_add, this]
      simpa [RV.cells] using hj)
    (fun u hu => by
      simp only [RV.cells, List.mem_cons, List.not_mem_nil, or_false] at hu
      rcases hu with rfl | rfl | rfl <;> rfl) (by unfold maxLen; omega) (by omega) (by simp; omega)
  have ho : OwnR lo w' v' (rs ++ [r]) := by
    unfold OwnR
    rw [List.length_append, List.flatMap_append]
    simpa using hown
  have hv : ∃ a' cap', v' = .slice a' (rs.length + 1) cap' := by
    obtain ⟨_, h2⟩ := hown
    rcases h2 with ⟨_, h0⟩ | ⟨g, cap, cur, e, _⟩
    · omega
    · exact ⟨_, _, e⟩
  obtain ⟨a', cap', rfl⟩ := hv
  exact ⟨a', cap', w', hr, ho, hg, by simpa using hat⟩
def OffB (a : Option Addr) (zs : List Int) (k : Nat) : Prop := zs ≠ [] → ∀ b o, a = some ⟨b, o, none⟩ → b ≠ k
theorem Seg.grown {lo : Nat} {W W' : World} {a : Option Addr} {n cap : Nat} {zs : List Int} {row : Option Nat} (h : Seg lo W (.slice a n cap) zs) (hg : W.grownBy W' row) (hoff : ∀ k, row = some k → OffB a zs k) : Seg lo W' (.slice a n cap) zs := by
  obtain ⟨hw, a', cap', e, h1, h3⟩ := h
  simp only [Value.slice.injEq] at e
  obtain ⟨rfl, rfl, rfl⟩ := e
  refine ⟨hw, _, _, rfl, h1, fun hz => ?_⟩
  obtain ⟨b, off, e1, e2, e3, e4, e5⟩ := h3 hz
  have hb : W'.heap[b]? = W.heap[b]? := hg.block b e3 (fun e' => hoff b e'.symm hz b off e1 rfl)
  exact ⟨b, off, e1, e2, Nat.lt_of_lt_of_le e3 hg.size, fun j hj => (World.cell?_of_block (a := ⟨b, off + j, none⟩) hb).trans (e4 j hj), fun j hj => (World.frozen?_of_block (a := ⟨b, off + j, none⟩) hb).trans (e5 j hj)⟩
theorem Seg.offB {lo : Nat} {W : World} {a : Option Addr} {n cap k : Nat} {zs : List Int} (h : Seg lo W (.slice a n cap) zs) (hk : k < lo ∨ W.heap.size ≤ k) : OffB a zs k := fun hz b o e => by
  obtain ⟨hl, _⟩ := h.len
  obtain ⟨b', o', e1, e2, e3⟩ := h.row (by rw [hl]; exact List.length_pos_iff.2 hz)
  rw [e] at e1
  simp only [Option.some.injEq, Addr.mk.injEq] at e1
  omega
theorem ownr_below {lo : Nat} {W W' : World} {v : Value} {cs : List RV} (h : OwnR lo W v cs) (hb : Below W.heap.size W W') : OwnR lo W' v cs :=
  World.ownsRow.kept h (row := none) ⟨hb.os, hb.tape, hb.output, hb.size, fun k hk _ => hb.block k hk⟩ (by cases hv : v.ownBlock <;> simp)
theorem Box.lo {W W' : World} {k L : Nat} {o : Obj} (h : Box W k o) (hb : Below L W W') (hk : k < L) : Box W' k o := ⟨Nat.lt_of_lt_of_le h.lt hb.size, (hb.block k hk).trans h.what⟩
set_option maxRecDepth 100000 in
set_option maxHeartbeats 4000000 in
theorem tspart_any (x y : Int) (hx : -9223372036854775808 ≤ x ∧ x < 9223372036854775808) (hy : -9223372036854775808 ≤ y ∧ y < 9223372036854775808) (h0 : 0 < y) (w : World) :
    Calls Tryz.prog 43 #[.int .i64 x, .int .i64 y] w fun e w' => ∃ (b' : Bool) (a' : Option Addr) (ca' : Nat) (ts' : List Int) (c' : Option Addr) (cc' : Nat) (es' : List Int), e = .returned (.agg #[.bool b', .slice a' ts'.length ca', .slice c' es'.length cc']) ∧ Fr w.heap.size w' a' ca' ts' c' cc' es' ∧ Apart a' c' ts' es' ∧ Is b' ts' es' (Rat.divInt x y) (1) ∧ Below w.heap.size w w' := by
  have hB := Below.refl w.heap.size w
  go_enter Tryz.func43, Tryz.ntmps43
  have hs0 := Nat.le_refl w.heap.size
  have hq := below_new w (.cells #[.bool false, .slice none 0 0, .slice none 0 0] 31)
  have E0 := Box.put (w := w) (k := (w.heap.size)) (.cells #[.bool false, .slice none 0 0, .slice none 0 0] 31) rfl
  replace hs0 := Nat.le_trans hs0 hq.size
  replace hB := hB.trans (hq.mono hB.size)
  clear hq
  go_wp2_with fail
  obtain ⟨u1, hname⟩ := nm hB
  rw [hname] at hs0 hB E0 ⊢
  have zh1 := hB.size
  have zs1 := hs0
  clear hname hs0
  refine (ppair_pos x y hx hy h0 _).mono ?_
  rintro e w2 ⟨g1, a1, c1, x1, e1, t1, y1, rfl, F1, P1, I1, hb⟩
  replace I1 : Is g1 x1 y1 (Rat.divInt x y) (1) := I1.mono (by omega)
  replace E0 := E0.below hb
  replace hB := hB.trans (hb.mono hB.size)
  have zz2 := hb.size
  have zh2 := hB.size
  clear hb
  obtain ⟨k0, k1, k2, f0, f1, f2⟩ := E0.three
  have qE0 := E0.lt
  have hs0 := Nat.le_refl w2.heap.size
  have hT := turns3 (w.heap.size) w2 (.bool g1) (.slice a1 x1.length c1) (.slice e1 y1.length t1)
  replace F1 := F1.beside E0 (noWord3 (fun _ e => by cases e) (fun _ e => by cases e) (fun _ e => by cases e)) hT
  replace E0 := Box.set3 (.bool g1) (.slice a1 x1.length c1) (.slice e1 y1.length t1) E0
  replace hB := hB.trans (hT.below.mono (by omega))
  replace hs0 := Nat.le_trans hs0 hT.below.size
  clear hT
  have hq := below_new (((w2.setCell ⟨w.heap.size, 0, none⟩ (.bool g1)).setCell ⟨w.heap.size, 1, none⟩ (.slice a1 x1.length c1)).setCell ⟨w.heap.size, 2, none⟩ (.slice e1 y1.length t1)) (.cells #[.bool g1, .slice a1 x1.length c1, .slice e1 y1.length t1] 31)
  replace E0 := E0.below hq
  replace F1 := F1.below hq
  have E1 := Box.put (w := (((w2.setCell ⟨w.heap.size, 0, none⟩ (.bool g1)).setCell ⟨w.heap.size, 1, none⟩ (.slice a1 x1.length c1)).setCell ⟨w.heap.size, 2, none⟩ (.slice e1 y1.length t1))) (k := (w2.heap.size)) (.cells #[.bool g1, .slice a1 x1.length c1, .slice e1 y1.length t1] 31) (by simp)
  replace hs0 := Nat.le_trans hs0 hq.size
  replace hB := hB.trans (hq.mono hB.size)
  clear hq
  have hcc := E0.three
  have r0 := hcc.1
  have r1 := hcc.2.1
  have r2 := hcc.2.2.1
  clear hcc
  go_wp2
  refine bodyPost_ret (v := .agg #[.bool g1, .slice a1 x1.length c1, .slice e1 y1.length t1]) (by simp [results, Tryz.f43, go_sem, r0, r1, r2]) rfl ?_
  exact ⟨_, _, _, _, _, _, _, rfl, F1.mono (by omega), P1, I1, hB⟩
set_option maxRecDepth 100000 in
set_option maxHeartbeats 4000000 in
theorem lt_part_any (x y : Int) (hx : -9223372036854775808 ≤ x ∧ x < 9223372036854775808) (hy : -9223372036854775808 ≤ y ∧ y < 9223372036854775808) (h0 : 0 < y) (w : World) :
    Calls Tryz.prog 8 #[.int .i64 x, .int .i64 y] w fun e w' => ∃ (b' : Bool) (a' : Option Addr) (ca' : Nat) (ts' : List Int) (c' : Option Addr) (cc' : Nat) (es' : List Int), e = .returned (.agg #[.bool b', .slice a' ts'.length ca', .slice c' es'.length cc']) ∧ Fr w.heap.size w' a' ca' ts' c' cc' es' ∧ Apart a' c' ts' es' ∧ Is b' ts' es' (Rat.divInt x y) (1) ∧ Below w.heap.size w w' := by
  have hB := Below.refl w.heap.size w
  go_enter Tryz.func8, Tryz.ntmps8
  have hs0 := Nat.le_refl w.heap.size
  have hq := below_new w (.cells #[.bool false, .slice none 0 0, .slice none 0 0] 31)
  have E0 := Box.put (w := w) (k := (w.heap.size)) (.cells #[.bool false, .slice none 0 0, .slice none 0 0] 31) rfl
  replace hs0 := Nat.le_trans hs0 hq.size
  replace hB := hB.trans (hq.mono hB.size)
  clear hq
  go_wp2_with fail
  obtain ⟨u1, hname⟩ := nm hB
  rw [hname] at hs0 hB E0 ⊢
  have zh1 := hB.size
  have zs1 := hs0
  clear hname hs0
  refine (ppair_pos x y hx hy h0 _).mono ?_
  rintro e w2 ⟨g1, a1, c1, x1, e1, t1, y1, rfl, F1, P1, I1, hb⟩
  replace I1 : Is g1 x1 y1 (Rat.divInt x y) (1) := I1.mono (by omega)
  replace E0 := E0.below hb
  replace hB := hB.trans (hb.mono hB.size)
  have zz2 := hb.size
  have zh2 := hB.size
  clear hb
  obtain ⟨k0, k1, k2, f0, f1, f2⟩ := E0.three
  have qE0 := E0.lt
  have hs0 := Nat.le_refl w2.heap.size
  have hT := turns3 (w.heap.size) w2 (.bool g1) (.slice a1 x1.length c1) (.slice e1 y1.length t1)
  replace F1 := F1.beside E0 (noWord3 (fun _ e => by cases e) (fun _ e => by cases e) (fun _ e => by cases e)) hT
  replace E0 := Box.set3 (.bool g1) (.slice a1 x1.length c1) (.slice e1 y1.length t1) E0
  replace hB := hB.trans (hT.below.mono (by omega))
  replace hs0 := Nat.le_trans hs0 hT.below.size
  clear hT
  have hq := below_new (((w2.setCell ⟨w.heap.size, 0, none⟩ (.bool g1)).setCell ⟨w.heap.size, 1, none⟩ (.slice a1 x1.length c1)).setCell ⟨w.heap.size, 2, none⟩ (.slice e1 y1.length t1)) (.cells #[.bool g1, .slice a1 x1.length c1, .slice e1 y1.length t1] 31)
  replace E0 := E0.below hq
  replace F1 := F1.below hq
  have E1 := Box.put (w := (((w2.setCell ⟨w.heap.size, 0, none⟩ (.bool g1)).setCell ⟨w.heap.size, 1, none⟩ (.slice a1 x1.length c1)).setCell ⟨w.heap.size, 2, none⟩ (.slice e1 y1.length t1))) (k := (w2.heap.size)) (.cells #[.bool g1, .slice a1 x1.length c1, .slice e1 y1.length t1] 31) (by simp)
  replace hs0 := Nat.le_trans hs0 hq.size
  replace hB := hB.trans (hq.mono hB.size)
  clear hq
  have hcc := E0.three
  have r0 := hcc.1
  have r1 := hcc.2.1
  have r2 := hcc.2.2.1
  clear hcc
  go_wp2
  refine bodyPost_ret (v := .agg #[.bool g1, .slice a1 x1.length c1, .slice e1 y1.length t1]) (by simp [results, Tryz.f8, go_sem, r0, r1, r2]) rfl ?_
  exact ⟨_, _, _, _, _, _, _, rfl, F1.mono (by omega), P1, I1, hB⟩
theorem deg_pos {d : Int} (h1 : 2 ≤ d) (h2 : d ≤ 65536) : 0 < d * (d - 1) ∧ d * (d - 1) ≤ 4294967296 := by
  have h3 := Int.mul_pos (show 0 < d by omega) (show 0 < d - 1 by omega)
  have h4 := Int.mul_le_mul h2 (show d - 1 ≤ 65536 by omega) (by omega) (by decide)
  omega
set_option maxRecDepth 100000 in
set_option maxHeartbeats 4000000 in
theorem tsideal1_one (k : Int) (hk : 1 ≤ k ∧ k ≤ 65536) {K : Nat} {w : World} (E : Box w K (.cells #[.int .i64 k] 3))  :
    Calls Tryz.prog 42 #[.int .i64 1, .pointer (some ⟨K, 0, none⟩)] w fun e w' => ∃ (b' : Bool) (a' : Option Addr) (ca' : Nat) (ts' : List Int) (c' : Option Addr) (cc' : Nat) (es' : List Int), e = .returned (.agg #[.bool b', .slice a' ts'.length ca', .slice c' es'.length cc']) ∧ Fr w.heap.size w' a' ca' ts' c' cc' es' ∧ Apart a' c' ts' es' ∧ Is b' ts' es' (idQ k 1) (1) ∧ Below w.heap.size w w' := by
  have EK := E
  clear E
  have hB := Below.refl w.heap.size w
  go_enter Tryz.func42, Tryz.ntmps42
  obtain ⟨k0, f0⟩ := EK.one
  have qEK := EK.lt
  have hs0 := Nat.le_refl w.heap.size
  have hq := below_new w (.cells #[.bool false, .slice none 0 0, .slice none 0 0] 31)
  replace EK := EK.below hq
  have E0 := Box.put (w := w) (k := (w.heap.size)) (.cells #[.bool false, .slice none 0 0, .slice none 0 0] 31) rfl
  replace hs0 := Nat.le_trans hs0 hq.size
  replace hB := hB.trans (hq.mono hB.size)
  clear hq
  go_wp2_with fail
  clear k0 f0
  obtain ⟨u1, hname⟩ := nm hB
  rw [hname] at hs0 hB EK E0 ⊢
  have zh1 := hB.size
  have zs1 := hs0
  clear hname hs0
  refine (tspart_any 1 k (by decide) (by omega) (by omega) _).mono ?_
  rintro e w2 ⟨g1, a1, c1, x1, e1, t1, y1, rfl, F1, P1, I1, hb⟩
  replace I1 : Is g1 x1 y1 (Rat.divInt 1 k) (1) := I1.mono (by omega)
  replace EK := EK.below hb
  replace E0 := E0.below hb
  replace hB := hB.trans (hb.mono hB.size)
  have zz2 := hb.size
  have zh2 := hB.size
  clear hb
  obtain ⟨k0, k1, k2, f0, f1, f2⟩ := E0.three
  have hcc := E0.three
  have r0 := hcc.1
  have r1 := hcc.2.1
  have r2 := hcc.2.2.1
  clear hcc
  have qEK := EK.lt
  have qE0 := E0.lt
  have hs0 := Nat.le_refl w2.heap.size
  have hT := turns3 (w.heap.size) w2 (.bool g1) (.slice a1 x1.length c1) (.slice e1 y1.length t1)
  replace EK := EK.turns hT (by omega)
  replace F1 := F1.beside E0 (noWord3 (fun _ e => by cases e) (fun _ e => by cases e) (fun _ e => by cases e)) hT
  replace E0 := Box.set3 (.bool g1) (.slice a1 x1.length c1) (.slice e1 y1.length t1) E0
  replace hB := hB.trans (hT.below.mono (by omega))
  replace hs0 := Nat.le_trans hs0 hT.below.size
  clear hT
  go_wp2
  refine bodyPost_ret (v := .agg #[.bool g1, .slice a1 x1.length c1, .slice e1 y1.length t1]) (by simp [results, Tryz.f42, go_sem, r0, r1, r2]) rfl ?_
  exact ⟨_, _, _, _, _, _, _, rfl, F1.mono (by omega), P1, I1.to (by simp [idQ]), hB⟩
set_option maxRecDepth 100000 in
set_option maxHeartbeats 4000000 in
theorem tsideal1_more (d k : Int) (hd : 1 ≤ d ∧ d ≤ 65536) (hk : 1 ≤ k ∧ k ≤ 65536) (h1 : ¬ d = 1) {K : Nat} {w : World} (E : Box w K (.cells #[.int .i64 k] 3))  :
    Calls Tryz.prog 42 #[.int .i64 d, .pointer (some ⟨K, 0, none⟩)] w fun e w' => ∃ (b' : Bool) (a' : Option Addr) (ca' : Nat) (ts' : List Int) (c' : Option Addr) (cc' : Nat) (es' : List Int), e = .returned (.agg #[.bool b', .slice a' ts'.length ca', .slice c' es'.length cc']) ∧ Fr w.heap.size w' a' ca' ts' c' cc' es' ∧ Apart a' c' ts' es' ∧ Is b' ts' es' (idQ k d) (1) ∧ Below w.heap.size w w' := by
  have _u := hk
  clear _u
  obtain ⟨P, hP⟩ : ∃ P, d * (d - 1) = P := ⟨_, rfl⟩
  have hb := deg_pos (d := d) (by omega) (by omega)
  rw [hP] at hb
  have HQ : Hid (Rat.divInt 1 P = idQ k d) := by rw [Hid, idQ, if_neg h1, hP]
  have hne : (d == 1) = false := beq_eq_false_iff_ne.2 h1
  have hw1 : IntKind.i64.wrap (d - 1) = d - 1 := by rw [IntKind.wrap_i64]; omega
  have hw2 : IntKind.i64.wrap (d * (d - 1)) = P := by rw [hP, IntKind.wrap_i64]; omega
  clear hP
  have EK := E
  clear E
  have hB := Below.refl w.heap.size w
  go_enter Tryz.func42, Tryz.ntmps42
  obtain ⟨k0, f0⟩ := EK.one
  have qEK := EK.lt
  have hs0 := Nat.le_refl w.heap.size
  have hq := below_new w (.cells #[.bool false, .slice none 0 0, .slice none 0 0] 31)
  replace EK := EK.below hq
  have E0 := Box.put (w := w) (k := (w.heap.size)) (.cells #[.bool false, .slice none 0 0, .slice none 0 0] 31) rfl
  replace hs0 := Nat.le_trans hs0 hq.size
  replace hB := hB.trans (hq.mono hB.size)
  clear hq
  go_wp2_with fail
  clear k0 f0
  obtain ⟨u1, hname⟩ := nm hB
  rw [hname] at hs0 hB EK E0 ⊢
  have zh1 := hB.size
  have zs1 := hs0
  clear hname hs0
  refine (tspart_any 1 P (by decide) (by omega) (by omega) _).mono ?_
  rintro e w2 ⟨g1, a1, c1, x1, e1, t1, y1, rfl, F1, P1, I1, hb⟩
  replace I1 : Is g1 x1 y1 (Rat.divInt 1 P) (1) := I1.mono (by omega)
  replace EK := EK.below hb
  replace E0 := E0.below hb
  replace hB := hB.trans (hb.mono hB.size)
  have zz2 := hb.size
  have zh2 := hB.size
  clear hb
  obtain ⟨k0, k1, k2, f0, f1, f2⟩ := E0.three
  have hcc := E0.three
  have r0 := hcc.1
  have r1 := hcc.2.1
  have r2 := hcc.2.2.1
  clear hcc
  have qEK := EK.lt
  have qE0 := E0.lt
  have hs0 := Nat.le_refl w2.heap.size
  have hT := turns3 (w.heap.size) w2 (.bool g1) (.slice a1 x1.length c1) (.slice e1 y1.length t1)
  replace EK := EK.turns hT (by omega)
  replace F1 := F1.beside E0 (noWord3 (fun _ e => by cases e) (fun _ e => by cases e) (fun _ e => by cases e)) hT
  replace E0 := Box.set3 (.bool g1) (.slice a1 x1.length c1) (.slice e1 y1.length t1) E0
  replace hB := hB.trans (hT.below.mono (by omega))
  replace hs0 := Nat.le_trans hs0 hT.below.size
  clear hT
  go_wp2
  refine bodyPost_ret (v := .agg #[.bool g1, .slice a1 x1.length c1, .slice e1 y1.length t1]) (by simp [results, Tryz.f42, go_sem, r0, r1, r2]) rfl ?_
  exact ⟨_, _, _, _, _, _, _, rfl, F1.mono (by omega), P1, I1.to HQ.out, hB⟩
theorem tsideal1_any (d k : Int) (hd : 1 ≤ d ∧ d ≤ 65536) (hk : 1 ≤ k ∧ k ≤ 65536) {K : Nat} {w : World} (E : Box w K (.cells #[.int .i64 k] 3))  :
    Calls Tryz.prog 42 #[.int .i64 d, .pointer (some ⟨K, 0, none⟩)] w fun e w' => ∃ (b' : Bool) (a' : Option Addr) (ca' : Nat) (ts' : List Int) (c' : Option Addr) (cc' : Nat) (es' : List Int), e = .returned (.agg #[.bool b', .slice a' ts'.length ca', .slice c' es'.length cc']) ∧ Fr w.heap.size w' a' ca' ts' c' cc' es' ∧ Apart a' c' ts' es' ∧ Is b' ts' es' (idQ k d) (1) ∧ Below w.heap.size w w' := by
  by_cases h1 : d = 1
  · subst h1
    exact tsideal1_one k hk E
  · exact tsideal1_more d k hd hk h1 E
set_option maxRecDepth 100000 in
set_option maxHeartbeats 4000000 in
theorem tsspiked1_less (d m : Int) (hd : 1 ≤ d ∧ d ≤ 65536) (hm : 1 ≤ m ∧ m ≤ 65536) (h : d < m) {a1 e1 : Option Addr} {c1 t1 : Nat} {x1 y1 : List Int} {w : World} (g1 : Bool) (F1 : Fr 0 w a1 c1 x1 e1 t1 y1) {q : Rat} {n : Nat} (I1 : Is g1 x1 y1 q n) (hn : 1 ≤ n) {K J : Nat} (EM : Box w K (.cells #[.int .i64 m] 3)) (EQ : Box w J (.cells #[.bool g1, .slice a1 x1.length c1, .slice e1 y1.length t1] 31)) {H : Nat} (hO : ∀ k, H ≤ k → OffB a1 x1 k ∧ OffB e1 y1 k) :
    Calls Tryz.prog 44 #[.int .i64 d, .pointer (some ⟨K, 0, none⟩), .pointer (some ⟨J, 0, none⟩)] w fun e w' => ∃ (b' : Bool) (a' : Option Addr) (ca' : Nat) (ts' : List Int) (c' : Option Addr) (cc' : Nat) (es' : List Int), e = .returned (.agg #[.bool b', .slice a' ts'.length ca', .slice c' es'.length cc']) ∧ Fr 0 w' a' ca' ts' c' cc' es' ∧ Is b' ts' es' (shQ m q d) n ∧ Below w.heap.size w w' ∧ ∀ k, H ≤ k → k < w.heap.size → OffB a' ts' k ∧ OffB c' es' k := by
  obtain ⟨P, hP⟩ : ∃ P, d * m = P := ⟨_, rfl⟩
  have hb : 0 < d * m ∧ d * m ≤ 4294967296 := by
    have h3 := Int.mul_pos (show 0 < d by omega) (show 0 < m by omega)
    have h4 := Int.mul_le_mul hd.2 hm.2 (by omega) (by decide)
    omega
  rw [hP] at hb
  have HQ : Hid (Rat.divInt 1 P = shQ m q d) := by rw [Hid, shQ, if_pos h, hP]
  have hw2 : IntKind.i64.wrap (d * m) = P := by rw [hP, IntKind.wrap_i64]; omega
  clear hP
  have _u := And.intro (And.intro hd hm) (And.intro I1 hn)
  clear _u
  have HO := hide hO
  clear hO
  have hB := Below.refl w.heap.size w
  go_enter Tryz.func44, Tryz.ntmps44
  obtain ⟨k0, f0⟩ := EM.one
  have qEM := EM.lt
  have qEQ := EQ.lt
  have hs0 := Nat.le_refl w.heap.size
  have hq := below_new w (.cells #[.bool false, .slice none 0 0, .slice none 0 0] 31)
  replace F1 := F1.below hq
  replace EM := EM.below hq
  replace EQ := EQ.below hq
  have E0 := Box.put (w := w) (k := (w.heap.size)) (.cells #[.bool false, .slice none 0 0, .slice none 0 0] 31) rfl
  replace hs0 := Nat.le_trans hs0 hq.size
  replace hB := hB.trans (hq.mono hB.size)
  clear hq
  go_wp2_with fail
  clear k0 f0
  obtain ⟨u1, hname⟩ := nm hB
  rw [hname] at hs0 hB F1 EM EQ E0 ⊢
  have zh1 := hB.size
  have zs1 := hs0
  clear hname hs0
  refine (tspart_any 1 P (by decide) (by omega) (by omega) _).mono ?_
  rintro e w2 ⟨g2, a2, c2, x2, e2, t2, y2, rfl, F2, P2, I2, hb⟩
  replace I2 : Is g2 x2 y2 (Rat.divInt 1 P) (1) := I2.mono (by omega)
  replace F1 := F1.below hb
  replace EM := EM.below hb
  replace EQ := EQ.below hb
  replace E0 := E0.below hb
  replace hB := hB.trans (hb.mono hB.size)
  have zz2 := hb.size
  have zh2 := hB.size
  clear hb
  obtain ⟨k0, k1, k2, f0, f1, f2⟩ := E0.three
  have hcc := E0.three
  have r0 := hcc.1
  have r1 := hcc.2.1
  have r2 := hcc.2.2.1
  clear hcc
  have qEM := EM.lt
  have qEQ := EQ.lt
  have qE0 := E0.lt
  have hs0 := Nat.le_refl w2.heap.size
  have hT := turns3 (w.heap.size) w2 (.bool g2) (.slice a2 x2.length c2) (.slice e2 y2.length t2)
  replace F1 := F1.beside E0 (noWord3 (fun _ e => by cases e) (fun _ e => by cases e) (fun _ e => by cases e)) hT
  replace EM := EM.turns hT (by omega)
  replace EQ := EQ.turns hT (by omega)
  replace F2 := F2.beside E0 (noWord3 (fun _ e => by cases e) (fun _ e => by cases e) (fun _ e => by cases e)) hT
  replace E0 := Box.set3 (.bool g2) (.slice a2 x2.length c2) (.slice e2 y2.length t2) E0
  replace hB := hB.trans (hT.below.mono (by omega))
  replace hs0 := Nat.le_trans hs0 hT.below.size
  clear hT
  go_wp2
  refine bodyPost_ret (v := .agg #[.bool g2, .slice a2 x2.length c2, .slice e2 y2.length t2]) (by simp [results, Tryz.f44, go_sem, r0, r1, r2]) rfl ?_
  exact ⟨_, _, _, _, _, _, _, rfl, F2.mono (Nat.zero_le _), (I2.mono hn).to HQ.out, hB, fun k _ hk => ⟨F2.up.offB (Or.inl (by omega)), F2.down.offB (Or.inl (by omega))⟩⟩
set_option maxRecDepth 100000 in
set_option maxHeartbeats 4000000 in
theorem tsspiked1_is (d m : Int) (hd : 1 ≤ d ∧ d ≤ 65536) (hm : 1 ≤ m ∧ m ≤ 65536) (h : d = m) {a1 e1 : Option Addr} {c1 t1 : Nat} {x1 y1 : List Int} {w : World} (g1 : Bool) (F1 : Fr 0 w a1 c1 x1 e1 t1 y1) {q : Rat} {n : Nat} (I1 : Is g1 x1 y1 q n) (hn : 1 ≤ n) {K J : Nat} (EM : Box w K (.cells #[.int .i64 m] 3)) (EQ : Box w J (.cells #[.bool g1, .slice a1 x1.length c1, .slice e1 y1.length t1] 31)) {H : Nat} (hO : ∀ k, H ≤ k → OffB a1 x1 k ∧ OffB e1 y1 k) :
    Calls Tryz.prog 44 #[.int .i64 d, .pointer (some ⟨K, 0, none⟩), .pointer (some ⟨J, 0, none⟩)] w fun e w' => ∃ (b' : Bool) (a' : Option Addr) (ca' : Nat) (ts' : List Int) (c' : Option Addr) (cc' : Nat) (es' : List Int), e = .returned (.agg #[.bool b', .slice a' ts'.length ca', .slice c' es'.length cc']) ∧ Fr 0 w' a' ca' ts' c' cc' es' ∧ Is b' ts' es' (shQ m q d) n ∧ Below w.heap.size w w' ∧ ∀ k, H ≤ k → k < w.heap.size → OffB a' ts' k ∧ OffB c' es' k := by
  subst h
  have HQ : Hid (q = shQ d q d) := by rw [Hid, shQ, if_neg (by omega), if_pos rfl]
  have _u := And.intro (And.intro hd hm) (And.intro I1 hn)
  clear _u
  have HO := hide hO
  clear hO
  have hB := Below.refl w.heap.size w
  go_enter Tryz.func44, Tryz.ntmps44
  obtain ⟨k0, f0⟩ := EM.one
  obtain ⟨k1, k2, k3, f1, f2, f3⟩ := EQ.three
  have qEM := EM.lt
  have qEQ := EQ.lt
  have hs0 := Nat.le_refl w.heap.size
  have hq := below_new w (.cells #[.bool g1, .slice a1 x1.length c1, .slice e1 y1.length t1] 31)
  replace F1 := F1.below hq
  replace EM := EM.below hq
  replace EQ := EQ.below hq
  have E0 := Box.put (w := w) (k := (w.heap.size)) (.cells #[.bool g1, .slice a1 x1.length c1, .slice e1 y1.length t1] 31) rfl
  replace hs0 := Nat.le_trans hs0 hq.size
  replace hB := hB.trans (hq.mono hB.size)
  clear hq
  go_wp2
  refine bodyPost_ret (v := .agg #[.bool g1, .slice a1 x1.length c1, .slice e1 y1.length t1]) (by simp [results, Tryz.f44, go_sem]) rfl ?_
  exact ⟨_, _, _, _, _, _, _, rfl, F1.mono (Nat.zero_le _), I1.to HQ.out, hB, fun k hk _ => HO.out k hk⟩
set_option maxRecDepth 100000 in
set_option maxHeartbeats 4000000 in
theorem tsspiked1_past (d m : Int) (hd : 1 ≤ d ∧ d ≤ 65536) (hm : 1 ≤ m ∧ m ≤ 65536) (h : m < d) {a1 e1 : Option Addr} {c1 t1 : Nat} {x1 y1 : List Int} {w : World} (g1 : Bool) (F1 : Fr 0 w a1 c1 x1 e1 t1 y1) {q : Rat} {n : Nat} (I1 : Is g1 x1 y1 q n) (hn : 1 ≤ n) {K J : Nat} (EM : Box w K (.cells #[.int .i64 m] 3)) (EQ : Box w J (.cells #[.bool g1, .slice a1 x1.length c1, .slice e1 y1.length t1] 31)) {H : Nat} (hO : ∀ k, H ≤ k → OffB a1 x1 k ∧ OffB e1 y1 k) :
    Calls Tryz.prog 44 #[.int .i64 d, .pointer (some ⟨K, 0, none⟩), .pointer (some ⟨J, 0, none⟩)] w fun e w' => ∃ (b' : Bool) (a' : Option Addr) (ca' : Nat) (ts' : List Int) (c' : Option Addr) (cc' : Nat) (es' : List Int), e = .returned (.agg #[.bool b', .slice a' ts'.length ca', .slice c' es'.length cc']) ∧ Fr 0 w' a' ca' ts' c' cc' es' ∧ Is b' ts' es' (shQ m q d) n ∧ Below w.heap.size w w' ∧ ∀ k, H ≤ k → k < w.heap.size → OffB a' ts' k ∧ OffB c' es' k := by
  have HQ : Hid (Rat.divInt 0 1 = shQ m q d) := by rw [Hid, shQ, if_neg (by omega), if_neg (by omega)]
  have hne : (d == m) = false := beq_eq_false_iff_ne.2 (by omega)
  have _u := And.intro (And.intro hd hm) (And.intro I1 hn)
  clear _u
  have HO := hide hO
  clear hO
  have hB := Below.refl w.heap.size w
  go_enter Tryz.func44, Tryz.ntmps44
  obtain ⟨k0, f0⟩ := EM.one
  have qEM := EM.lt
  have qEQ := EQ.lt
  have hs0 := Nat.le_refl w.heap.size
  have hq := below_new w (.cells #[.bool false, .slice none 0 0, .slice none 0 0] 31)
  replace F1 := F1.below hq
  replace EM := EM.below hq
  replace EQ := EQ.below hq
  have E0 := Box.put (w := w) (k := (w.heap.size)) (.cells #[.bool false, .slice none 0 0, .slice none 0 0] 31) rfl
  replace hs0 := Nat.le_trans hs0 hq.size
  replace hB := hB.trans (hq.mono hB.size)
  clear hq
  go_wp2_with fail
  clear k0 f0
  obtain ⟨u1, hname⟩ := nm hB
  rw [hname] at hs0 hB F1 EM EQ E0 ⊢
  have zh1 := hB.size
  have zs1 := hs0
  clear hname hs0
  refine (tspart_any 0 1 (by decide) (by decide) (by decide) _).mono ?_
  rintro e w2 ⟨g2, a2, c2, x2, e2, t2, y2, rfl, F2, P2, I2, hb⟩
  replace I2 : Is g2 x2 y2 (Rat.divInt 0 1) (1) := I2.mono (by omega)
  replace F1 := F1.below hb
  replace EM := EM.below hb
  replace EQ := EQ.below hb
  replace E0 := E0.below hb
  replace hB := hB.trans (hb.mono hB.size)
  have zz2 := hb.size
  have zh2 := hB.size
  clear hb
  obtain ⟨k0, k1, k2, f0, f1, f2⟩ := E0.three
  have hcc := E0.three
  have r0 := hcc.1
  have r1 := hcc.2.1
  have r2 := hcc.2.2.1
  clear hcc
  have qEM := EM.lt
  have qEQ := EQ.lt
  have qE0 := E0.lt
  have hs0 := Nat.le_refl w2.heap.size
  have hT := turns3 (w.heap.size) w2 (.bool g2) (.slice a2 x2.length c2) (.slice e2 y2.length t2)
  replace F1 := F1.beside E0 (noWord3 (fun _ e => by cases e) (fun _ e => by cases e) (fun _ e => by cases e)) hT
  replace EM := EM.turns hT (by omega)
  replace EQ := EQ.turns hT (by omega)
  replace F2 := F2.beside E0 (noWord3 (fun _ e => by cases e) (fun _ e => by cases e) (fun _ e => by cases e)) hT
  replace E0 := Box.set3 (.bool g2) (.slice a2 x2.length c2) (.slice e2 y2.length t2) E0
  replace hB := hB.trans (hT.below.mono (by omega))
  replace hs0 := Nat.le_trans hs0 hT.below.size
  clear hT
  go_wp2
  refine bodyPost_ret (v := .agg #[.bool g2, .slice a2 x2.length c2, .slice e2 y2.length t2]) (by simp [results, Tryz.f44, go_sem, r0, r1, r2]) rfl ?_
  exact ⟨_, _, _, _, _, _, _, rfl, F2.mono (Nat.zero_le _), (I2.mono hn).to HQ.out, hB, fun k _ hk => ⟨F2.up.offB (Or.inl (by omega)), F2.down.offB (Or.inl (by omega))⟩⟩
theorem tsspiked1_any (d m : Int) (hd : 1 ≤ d ∧ d ≤ 65536) (hm : 1 ≤ m ∧ m ≤ 65536)  {a1 e1 : Option Addr} {c1 t1 : Nat} {x1 y1 : List Int} {w : World} (g1 : Bool) (F1 : Fr 0 w a1 c1 x1 e1 t1 y1) {q : Rat} {n : Nat} (I1 : Is g1 x1 y1 q n) (hn : 1 ≤ n) {K J : Nat} (EM : Box w K (.cells #[.int .i64 m] 3)) (EQ : Box w J (.cells #[.bool g1, .slice a1 x1.length c1, .slice e1 y1.length t1] 31)) {H : Nat} (hO : ∀ k, H ≤ k → OffB a1 x1 k ∧ OffB e1 y1 k) :
    Calls Tryz.prog 44 #[.int .i64 d, .pointer (some ⟨K, 0, none⟩), .pointer (some ⟨J, 0, none⟩)] w fun e w' => ∃ (b' : Bool) (a' : Option Addr) (ca' : Nat) (ts' : List Int) (c' : Option Addr) (cc' : Nat) (es' : List Int), e = .returned (.agg #[.bool b', .slice a' ts'.length ca', .slice c' es'.length cc']) ∧ Fr 0 w' a' ca' ts' c' cc' es' ∧ Is b' ts' es' (shQ m q d) n ∧ Below w.heap.size w w' ∧ ∀ k, H ≤ k → k < w.heap.size → OffB a' ts' k ∧ OffB c' es' k := by
  rcases Int.lt_trichotomy d m with h | h | h
  · exact tsspiked1_less d m hd hm h g1 F1 I1 hn EM EQ hO
  · exact tsspiked1_is d m hd hm h g1 F1 I1 hn EM EQ hO
  · exact tsspiked1_past d m hd hm h g1 F1 I1 hn EM EQ hO
structure Parts (lo : Nat) (W : World) (v : Value) (cs : List RV) (Q : List Rat) (m : Nat) : Prop where
  own : OwnR lo W v cs
  fr : ∀ c ∈ cs, Fr 0 W c.a c.ca c.xs c.c c.cc c.ds
  off : ∀ c ∈ cs, ∀ k, v.ownBlock = some k → OffB c.a c.xs k ∧ OffB c.c c.ds k
  len : ∀ c ∈ cs, c.xs.length ≤ m ∧ c.ds.length ≤ m
  good : ∀ c ∈ cs, formR c.b c.xs c.ds = 0
  qs : cs.map RV.q = Q
theorem parts_nil (lo m : Nat) (W : World) : Parts lo W (.slice none 0 0) [] [] m := ⟨ownr_nil lo W, fun _ h => (by cases h), fun _ h => (by cases h), fun _ h => (by cases h), fun _ h => (by cases h), rfl⟩
theorem Parts.below {lo m : Nat} {W W' : World} {v : Value} {cs : List RV} {Q : List Rat} (K : Parts lo W v cs Q m) (hb : Below W.heap.size W W') : Parts lo W' v cs Q m :=
  ⟨ownr_below K.own hb, fun c hc => (K.fr c hc).below hb, K.off, K.len, K.good, K.qs⟩
theorem Parts.lt {lo m : Nat} {W : World} {v : Value} {cs : List RV} {Q : List Rat} (K : Parts lo W v cs Q m) : ∀ k, v.ownBlock = some k → lo ≤ k ∧ k < W.heap.size := World.ownsRow.lt K.own
theorem parts_next {lo m : Nat} {w : World} {v : Value} {cs : List RV} {Q : List Rat} {q : Rat} (K : Parts lo w v cs Q m) (r : RV) (hl : cs.length ≤ 1000) (hlo : lo ≤ w.heap.size) (F : Fr 0 w r.a r.ca r.xs r.c r.cc r.ds) (I : Is r.b r.xs r.ds q m) (hO : ∀ k, v.ownBlock = some k → OffB r.a r.xs k ∧ OffB r.c r.ds k) :
    ∃ a' cap' w', (Builtin.append_ #[95, 95] 95 #[v, .slice (some ⟨w.heap.size, 0, none⟩) 1 1]).run Tryz.prog (w.alloc (.cells #[.bool r.b, .slice r.a r.xs.length r.ca, .slice r.c r.ds.length r.cc] 31)) = .ok (.slice a' (cs.length + 1) cap') w' ∧ Parts lo w' (.slice a' (cs.length + 1) cap') (cs ++ [r]) (Q ++ [q]) m ∧ Below lo w w' := by
  have hlt := K.lt
  obtain ⟨a', cap', w', hr, ho, hg, hat⟩ := ownr_append K.own r hl hlo
  have hq := below_new w (.cells #[.bool r.b, .slice r.a r.xs.length r.ca, .slice r.c r.ds.length r.cc] 31)
  have hsz : (w.alloc (.cells #[.bool r.b, .slice r.a r.xs.length r.ca, .slice r.c r.ds.length r.cc] 31)).heap.size = w.heap.size + 1 := by simp
  refine ⟨a', cap', w', hr, ⟨ho, ?_, ?_, ?_, ?_, ?_⟩, ?_⟩
  · intro x hx
    rcases List.mem_append.1 hx with hx | hx
    · have f := (K.fr x hx).below hq
      exact ⟨f.up.grown hg (fun k hk => (K.off x hx k hk).1), f.down.grown hg (fun k hk => (K.off x hx k hk).2)⟩
    · obtain rfl := List.mem_singleton.1 hx
      have f := F.below hq
      exact ⟨f.up.grown hg (fun k hk => (hO k hk).1), f.down.grown hg (fun k hk => (hO k hk).2)⟩
  · intro x hx k hk
    rcases hat with hat | hat
    · rw [hat] at hk
      rcases List.mem_append.1 hx with hx | hx
      · exact K.off x hx k hk
      · obtain rfl := List.mem_singleton.1 hx
        exact hO k hk
    · rw [hat] at hk
      simp only [Option.some.injEq] at hk
      rcases List.mem_append.1 hx with hx | hx
      · have f := K.fr x hx
        exact ⟨f.up.offB (Or.inr (by omega)), f.down.offB (Or.inr (by omega))⟩
      · obtain rfl := List.mem_singleton.1 hx
        exact ⟨F.up.offB (Or.inr (by omega)), F.down.offB (Or.inr (by omega))⟩
  · intro x hx
    rcases List.mem_append.1 hx with hx | hx
    · exact K.len x hx
    · obtain rfl := List.mem_singleton.1 hx
      exact ⟨I.lu, I.ld⟩
  · intro x hx
    rcases List.mem_append.1 hx with hx | hx
    · exact K.good x hx
    · obtain rfl := List.mem_singleton.1 hx
      exact I.good F.up.words F.down.words
  · rw [List.map_append, K.qs]
    simp only [List.map, RV.q, I.rat]
  · exact (hq.mono hlo).grown hg (by rw [hsz]; omega) (fun k hk => (hlt k hk).1)
theorem Parts.row {lo m : Nat} {W : World} {a : Option Addr} {n cap : Nat} {cs : List RV} {Q : List Rat} (K : Parts lo W (.slice a n cap) cs Q m) : Row 0 W a cs := by
  obtain ⟨_, h2⟩ := K.own
  rcases h2 with ⟨_, h0⟩ | ⟨g, cap', cur, e, hg, hh, hc, hm, hs, ht⟩
  · obtain rfl : cs = [] := List.length_eq_zero_iff.1 h0
    exact ⟨fun j hj => by simp at hj, fun g o j r _ hr => by simp at hr, fun j r hr => by simp at hr⟩
  · simp only [Value.slice.injEq] at e
    obtain ⟨rfl, _, _⟩ := e
    refine ⟨fun j _ => ⟨g, 0, rfl, (Array.getElem?_eq_some_iff.1 hh).1⟩, fun g' o j r e hr => ?_, fun j r hr => K.fr r (List.mem_of_getElem? hr)⟩
    simp only [Option.some.injEq, Addr.mk.injEq, and_true] at e
    obtain ⟨rfl, rfl⟩ := e
    have hj := (List.getElem?_eq_some_iff.1 hr).1
    obtain ⟨h1, h2, h3⟩ := flat_at cs j hr
    have key : ∀ i, i < cs.length * 3 → W.cell? ⟨g, 0 + i, none⟩ = (cs.flatMap RV.cells)[i]? := fun i hi => by
      rw [cell_of_heap hh, Nat.zero_add, ← ht, List.getElem?_take_of_lt hi, Array.getElem?_toList]
    exact ⟨(key _ (by omega)).trans h1, (key (j * 3 + 1) (by omega)).trans h2, (key (j * 3 + 2) (by omega)).trans h3⟩
theorem padd_parts {lo m L : Nat} {w : World} {a : Option Addr} {n cap : Nat} {cs : List RV} {Q : List Rat} (K : Parts lo w (.slice a n cap) cs Q m) (hL : cs.length = L) (h6 : L ≤ 6) (hm : m ≤ 40) :
    Calls Tryz.prog 61 #[.slice a L cap] w fun e w' => ∃ (b' : Bool) (a' : Option Addr) (ca' : Nat) (ts' : List Int) (c' : Option Addr) (cc' : Nat) (es' : List Int), e = .returned (.tuple #[.agg #[.bool b', .slice a' ts'.length ca', .slice c' es'.length cc'], .int .i64 0]) ∧ Fr w.heap.size w' a' ca' ts' c' cc' es' ∧ Apart a' c' ts' es' ∧ Is b' ts' es' (Q.foldl (· + ·) 0) (1 + L * (m + 1)) ∧ Below w.heap.size w w' := by
  subst hL
  have := padd_ok (cap := cap) K.row h6 K.len hm K.good
  rw [sumQ_map cs K.qs] at this
  exact this
set_option maxRecDepth 100000 in
set_option maxHeartbeats 4000000 in
theorem tsideal_any (k : Int) (w : World) :
    Calls Tryz.prog 25 #[.int .i64 k] w fun e w' => ∃ K : Nat, e = .returned (.func (.func 42) #[] #[.pointer (some ⟨K, 0, none⟩)]) ∧ Box w' K (.cells #[.int .i64 k] 3) ∧ Below w.heap.size w w' := by
  have hmf : ∀ (fn : Fn) (first cap : Array Value) (w : World), (Instr.makeFunc fn first cap).run Tryz.prog w = .ok (.func fn first cap) w := fun _ _ _ _ => rfl
  have HE := hide (Box.new w (.cells #[.int .i64 k] 3))
  have HB := hide (below_new w (.cells #[.int .i64 k] 3))
  go_enter Tryz.func25, Tryz.ntmps25
  go_wp2
  go_ret
  exact ⟨w.heap.size, rfl, HE.out, HB.out⟩
set_option maxRecDepth 100000 in
set_option maxHeartbeats 4000000 in
theorem tsspiked_any (m : Int) (g1 : Bool) (a1 e1 : Option Addr) (c1 t1 : Nat) (x1 y1 : List Int) (w : World) :
    Calls Tryz.prog 27 #[.int .i64 m, .agg #[.bool g1, .slice a1 x1.length c1, .slice e1 y1.length t1]] w fun e w' => ∃ M J : Nat, e = .returned (.func (.func 44) #[] #[.pointer (some ⟨M, 0, none⟩), .pointer (some ⟨J, 0, none⟩)]) ∧ Box w' M (.cells #[.int .i64 m] 3) ∧ Box w' J (.cells #[.bool g1, .slice a1 x1.length c1, .slice e1 y1.length t1] 31) ∧ Below w.heap.size w w' := by
  have hmf : ∀ (fn : Fn) (first cap : Array Value) (w : World), (Instr.makeFunc fn first cap).run Tryz.prog w = .ok (.func fn first cap) w := fun _ _ _ _ => rfl
  have h1 := below_new w (.cells #[.int .i64 m] 3)
  have h2 := below_new (w.alloc (.cells #[.int .i64 m] 3)) (.cells #[.bool g1, .slice a1 x1.length c1, .slice e1 y1.length t1] 31)
  have HE := hide ((Box.new w (.cells #[.int .i64 m] 3)).below h2)
  have HJ : Hid (Box ((w.alloc (.cells #[.int .i64 m] 3)).alloc (.cells #[.bool g1, .slice a1 x1.length c1, .slice e1 y1.length t1] 31)) (w.heap.size + 1) (.cells #[.bool g1, .slice a1 x1.length c1, .slice e1 y1.length t1] 31)) := Box.put (.cells #[.bool g1, .slice a1 x1.length c1, .slice e1 y1.length t1] 31) (by simp)
  have HB := hide (h1.trans (h2.mono h1.size))
  clear h1 h2
  go_enter Tryz.func27, Tryz.ntmps27
  go_wp2
  go_ret
  exact ⟨w.heap.size, w.heap.size + 1, rfl, HE.out, HJ.out, HB.out⟩
set_option maxRecDepth 100000 in
set_option maxHeartbeats 4000000 in
theorem tog_one (d k : Int) (hd : 1 ≤ d ∧ d ≤ 65536) (hk : 1 ≤ k ∧ k ≤ 65536) {S K : Nat} {w : World} (EK : Box w K (.cells #[.int .i64 k] 3)) (ES : Box w S (.cells #[.func (.func 42) #[] #[.pointer (some ⟨K, 0, none⟩)]] 57)) :
    Calls Tryz.prog 41 #[.int .i64 d, .slice (some ⟨S, 0, none⟩) 1 1] w fun e w' => ∃ (b' : Bool) (a' : Option Addr) (ca' : Nat) (ts' : List Int) (c' : Option Addr) (cc' : Nat) (es' : List Int), e = .returned (.agg #[.bool b', .slice a' ts'.length ca', .slice c' es'.length cc']) ∧ Fr w.heap.size w' a' ca' ts' c' cc' es' ∧ Apart a' c' ts' es' ∧ Is b' ts' es' (idQ k d) (3) ∧ Below w.heap.size w w' := by
  have h0 := below_new w (.cells #[.bool false, .slice none 0 0, .slice none 0 0] 31)
  have E0 := Box.new w (.cells #[.bool false, .slice none 0 0, .slice none 0 0] 31)
  have hz : Hid ((w.alloc (.cells #[.bool false, .slice none 0 0, .slice none 0 0] 31)).heap.size = w.heap.size + 1) := by rw [Hid]; simp
  have PP : Parts (w.heap.size + 1) (w.alloc (.cells #[.bool false, .slice none 0 0, .slice none 0 0] 31)) (.slice none 0 0) [] [] 1 := parts_nil _ _ _
  have HP := hide PP
  have HE0 := hide E0
  have HK := hide (EK.below h0)
  have HS := hide (ES.below h0)
  have H0 := hide h0
  clear EK ES E0 PP h0
  go_enter Tryz.func41, Tryz.ntmps41
  go_wp2
  go_loopw [5, 12] (fun pv iv wr => ∃ (i : Nat) (cs : List RV) (a : Option Addr) (cp : Nat), pv = .slice a i cp ∧ iv = .int .i64 i ∧ i ≤ 1 ∧ cs.length = i ∧ Hid (Parts (w.heap.size + 1) wr (.slice a i cp) cs (List.take i [idQ k d]) 1) ∧ Hid (Below (w.heap.size + 1) (w.alloc (.cells #[.bool false, .slice none 0 0, .slice none 0 0] 31)) wr)) (fun _ iv _ => 1 - (intOf iv).toNat)
  case atStart => exact ⟨0, [], none, 0, rfl, rfl, Nat.zero_le _, rfl, HP.out, Below.refl _ _⟩
  case round =>
    skip
    obtain ⟨i, cs, a, cp, rfl, rfl, hi, hcs, P, HB⟩ := hrel
    have hsz := HB.out.size
    rw [hz.out] at hsz
    have hB1 : Below (w.alloc (.cells #[.bool false, .slice none 0 0, .slice none 0 0] 31)).heap.size (w.alloc (.cells #[.bool false, .slice none 0 0, .slice none 0 0] 31)) wr := by rw [hz.out]; exact HB.out
    by_cases h1 : i = 1
    · skip
      subst h1
      have E0 := HE0.out.lo HB.out (Nat.lt_succ_self _)
      have hB : Below w.heap.size w wr := H0.out.trans (HB.out.mono (by omega))
      have hpa := padd_parts P.out hcs (by decide) (by omega)
      clear hB1
      obtain ⟨k0, k1, k2, f0, f1, f2⟩ := E0.three
      go_wp2_with fail
      clear k0 k1 k2 f0 f1 f2
      refine (hpa).mono ?_
      rintro e w1 ⟨g2, a2, c2, x2, e2, t2, y2, rfl, F2, P2, I2, hb⟩
      replace I2 : Is g2 x2 y2 (idQ k d) (3) := (I2.mono (by omega)).to (by simp only [List.take, List.foldl]; rw [Rat.zero_add])
      replace E0 := E0.below hb
      replace hB := hB.trans (hb.mono hB.size)
      have zz1 := hb.size
      have zh1 := hB.size
      clear hb
      obtain ⟨k0, k1, k2, f0, f1, f2⟩ := E0.three
      have qE0 := E0.lt
      have hs0 := Nat.le_refl w1.heap.size
      have hT := turns3 (w.heap.size) w1 (.bool g2) (.slice a2 x2.length c2) (.slice e2 y2.length t2)
      replace F2 := F2.beside E0 (noWord3 (fun _ e => by cases e) (fun _ e => by cases e) (fun _ e => by cases e)) hT
      replace E0 := Box.set3 (.bool g2) (.slice a2 x2.length c2) (.slice e2 y2.length t2) E0
      replace hB := hB.trans (hT.below.mono (by omega))
      replace hs0 := Nat.le_trans hs0 hT.below.size
      clear hT
      have hq := below_new (((w1.setCell ⟨w.heap.size, 0, none⟩ (.bool g2)).setCell ⟨w.heap.size, 1, none⟩ (.slice a2 x2.length c2)).setCell ⟨w.heap.size, 2, none⟩ (.slice e2 y2.length t2)) (.cells #[.bool g2, .slice a2 x2.length c2, .slice e2 y2.length t2] 31)
      replace E0 := E0.below hq
      replace F2 := F2.below hq
      have E2 := Box.put (w := (((w1.setCell ⟨w.heap.size, 0, none⟩ (.bool g2)).setCell ⟨w.heap.size, 1, none⟩ (.slice a2 x2.length c2)).setCell ⟨w.heap.size, 2, none⟩ (.slice e2 y2.length t2))) (k := (w1.heap.size)) (.cells #[.bool g2, .slice a2 x2.length c2, .slice e2 y2.length t2] 31) (by simp)
      replace hs0 := Nat.le_trans hs0 hq.size
      replace hB := hB.trans (hq.mono hB.size)
      clear hq
      have hcc := E0.three
      have r0 := hcc.1
      have r1 := hcc.2.1
      have r2 := hcc.2.2.1
      clear hcc
      go_wp2
      refine bodyPost_ret (v := .agg #[.bool g2, .slice a2 x2.length c2, .slice e2 y2.length t2]) (by simp [results, Tryz.f41, go_sem, r0, r1, r2]) rfl ?_
      exact ⟨_, _, _, _, _, _, _, rfl, F2.mono (by omega), P2, I2, hB⟩
    · skip
      obtain rfl : i = 0 := by omega
      have hS := HS.out.below hB1
      have hcc := hS.one
      have k0 := hcc.1
      clear hS hcc
      have PB := hide P
      clear P
      have hc := tsideal1_any d k hd hk (HK.out.below hB1)
      clear hB1
      go_wp2_with fail
      clear k0
      refine hc.mono ?_
      rintro e w1 ⟨b2, a2, c2, x2, e2, t2, y2, rfl, F2, P2, I2, hb⟩
      clear hc
      have hsz2 := hb.size
      obtain ⟨a', cap', w', hap, P', hb'⟩ := parts_next (PB.out.out.below hb) ⟨b2, a2, c2, x2, e2, t2, y2⟩ (by omega) (by omega) (F2.mono (Nat.zero_le _)) (I2.mono (by omega)) (fun k hk => ⟨F2.up.offB (Or.inl (PB.out.out.lt k hk).2), F2.down.offB (Or.inl (PB.out.out.lt k hk).2)⟩)
      have HP2 := hide P'
      have HB2 := hide ((HB.out.trans (hb.mono hsz)).trans hb')
      rw [hcs] at hap HP2
      clear P' hb' hb F2 I2 P2 PB
      go_wp2_with (at_builtin; refine Lib.wpList_append_run _ rfl _ _ _ _ rfl _ _ rfl rfl _ _ hap ?_)
      exact ⟨⟨1, cs ++ [⟨b2, a2, c2, x2, e2, t2, y2⟩], a', cap', by first | rfl | trivial, by go_num, by omega, by rw [List.length_append, hcs]; rfl, by rw [Hid]; simpa using HP2.out, HB2.out⟩, by simp [intOf]⟩
set_option maxRecDepth 100000 in
set_option maxHeartbeats 4000000 in
theorem tog_two (d k : Int) (hd : 1 ≤ d ∧ d ≤ 65536) (hk : 1 ≤ k ∧ k ≤ 65536) (m : Int) (hm : 1 ≤ m ∧ m ≤ 65536) {S K : Nat} {w : World} (EK : Box w K (.cells #[.int .i64 k] 3)) {a1 e1 : Option Addr} {c1 t1 : Nat} {x1 y1 : List Int} (g1 : Bool) (F1 : Fr 0 w a1 c1 x1 e1 t1 y1) {q : Rat} (I1 : Is g1 x1 y1 q 4) {M J : Nat} (EM : Box w M (.cells #[.int .i64 m] 3)) (EQ : Box w J (.cells #[.bool g1, .slice a1 x1.length c1, .slice e1 y1.length t1] 31)) (ES : Box w S (.cells #[.func (.func 42) #[] #[.pointer (some ⟨K, 0, none⟩)], .func (.func 44) #[] #[.pointer (some ⟨M, 0, none⟩), .pointer (some ⟨J, 0, none⟩)]] 57)) :
    Calls Tryz.prog 41 #[.int .i64 d, .slice (some ⟨S, 0, none⟩) 2 2] w fun e w' => ∃ (b' : Bool) (a' : Option Addr) (ca' : Nat) (ts' : List Int) (c' : Option Addr) (cc' : Nat) (es' : List Int), e = .returned (.agg #[.bool b', .slice a' ts'.length ca', .slice c' es'.length cc']) ∧ Fr w.heap.size w' a' ca' ts' c' cc' es' ∧ Apart a' c' ts' es' ∧ Is b' ts' es' (idQ k d + shQ m q d) (11) ∧ Below w.heap.size w w' := by
  have h0 := below_new w (.cells #[.bool false, .slice none 0 0, .slice none 0 0] 31)
  have E0 := Box.new w (.cells #[.bool false, .slice none 0 0, .slice none 0 0] 31)
  have hz : Hid ((w.alloc (.cells #[.bool false, .slice none 0 0, .slice none 0 0] 31)).heap.size = w.heap.size + 1) := by rw [Hid]; simp
  have PP : Parts (w.heap.size + 1) (w.alloc (.cells #[.bool false, .slice none 0 0, .slice none 0 0] 31)) (.slice none 0 0) [] [] 4 := parts_nil _ _ _
  have HP := hide PP
  have HE0 := hide E0
  have HK := hide (EK.below h0)
  have HS := hide (ES.below h0)
  have H0 := hide h0
  have HM := hide (EM.below h0)
  have HQ := hide (EQ.below h0)
  have HF := hide (F1.below h0)
  have HO : Hid (∀ k, w.heap.size ≤ k → OffB a1 x1 k ∧ OffB e1 y1 k) := fun k hk => ⟨F1.up.offB (Or.inr hk), F1.down.offB (Or.inr hk)⟩
  clear EK ES E0 PP h0 EM EQ F1
  go_enter Tryz.func41, Tryz.ntmps41
  go_wp2
  go_loopw [5, 12] (fun pv iv wr => ∃ (i : Nat) (cs : List RV) (a : Option Addr) (cp : Nat), pv = .slice a i cp ∧ iv = .int .i64 i ∧ i ≤ 2 ∧ cs.length = i ∧ Hid (Parts (w.heap.size + 1) wr (.slice a i cp) cs (List.take i [idQ k d, shQ m q d]) 4) ∧ Hid (Below (w.heap.size + 1) (w.alloc (.cells #[.bool false, .slice none 0 0, .slice none 0 0] 31)) wr)) (fun _ iv _ => 2 - (intOf iv).toNat)
  case atStart => exact ⟨0, [], none, 0, rfl, rfl, Nat.zero_le _, rfl, HP.out, Below.refl _ _⟩
  case round =>
    skip
    obtain ⟨i, cs, a, cp, rfl, rfl, hi, hcs, P, HB⟩ := hrel
    have hsz := HB.out.size
    rw [hz.out] at hsz
    have hB1 : Below (w.alloc (.cells #[.bool false, .slice none 0 0, .slice none 0 0] 31)).heap.size (w.alloc (.cells #[.bool false, .slice none 0 0, .slice none 0 0] 31)) wr := by rw [hz.out]; exact HB.out
    by_cases h2 : i = 2
    · skip
      subst h2
      have E0 := HE0.out.lo HB.out (Nat.lt_succ_self _)
      have hB : Below w.heap.size w wr := H0.out.trans (HB.out.mono (by omega))
      have hpa := padd_parts P.out hcs (by decide) (by omega)
      clear hB1
      obtain ⟨k0, k1, k2, f0, f1, f2⟩ := E0.three
      go_wp2_with fail
      clear k0 k1 k2 f0 f1 f2
      refine (hpa).mono ?_
      rintro e w1 ⟨g2, a2, c2, x2, e2, t2, y2, rfl, F2, P2, I2, hb⟩
      replace I2 : Is g2 x2 y2 (idQ k d + shQ m q d) (11) := (I2.mono (by omega)).to (by simp only [List.take, List.foldl]; rw [Rat.zero_add])
      replace E0 := E0.below hb
      replace hB := hB.trans (hb.mono hB.size)
      have zz1 := hb.size
      have zh1 := hB.size
      clear hb
      obtain ⟨k0, k1, k2, f0, f1, f2⟩ := E0.three
      have qE0 := E0.lt
      have hs0 := Nat.le_refl w1.heap.size
      have hT := turns3 (w.heap.size) w1 (.bool g2) (.slice a2 x2.length c2) (.slice e2 y2.length t2)
      replace F2 := F2.beside E0 (noWord3 (fun _ e => by cases e) (fun _ e => by cases e) (fun _ e => by cases e)) hT
      replace E0 := Box.set3 (.bool g2) (.slice a2 x2.length c2) (.slice e2 y2.length t2) E0
      replace hB := hB.trans (hT.below.mono (by omega))
      replace hs0 := Nat.le_trans hs0 hT.below.size
      clear hT
      have hq := below_new (((w1.setCell ⟨w.heap.size, 0, none⟩ (.bool g2)).setCell ⟨w.heap.size, 1, none⟩ (.slice a2 x2.length c2)).setCell ⟨w.heap.size, 2, none⟩ (.slice e2 y2.length t2)) (.cells #[.bool g2, .slice a2 x2.length c2, .slice e2 y2.length t2] 31)
      replace E0 := E0.below hq
      replace F2 := F2.below hq
      have E2 := Box.put (w := (((w1.setCell ⟨w.heap.size, 0, none⟩ (.bool g2)).setCell ⟨w.heap.size, 1, none⟩ (.slice a2 x2.length c2)).setCell ⟨w.heap.size, 2, none⟩ (.slice e2 y2.length t2))) (k := (w1.heap.size)) (.cells #[.bool g2, .slice a2 x2.length c2, .slice e2 y2.length t2] 31) (by simp)
      replace hs0 := Nat.le_trans hs0 hq.size
      replace hB := hB.trans (hq.mono hB.size)
      clear hq
      have hcc := E0.three
      have r0 := hcc.1
      have r1 := hcc.2.1
      have r2 := hcc.2.2.1
      clear hcc
      go_wp2
      refine bodyPost_ret (v := .agg #[.bool g2, .slice a2 x2.length c2, .slice e2 y2.length t2]) (by simp [results, Tryz.f41, go_sem, r0, r1, r2]) rfl ?_
      exact ⟨_, _, _, _, _, _, _, rfl, F2.mono (by omega), P2, I2, hB⟩
    · skip
      by_cases h0 : i = 0
      · skip
        obtain rfl : i = 0 := by omega
        have hS := HS.out.below hB1
        have hcc := hS.two
        have k0 := hcc.1
        clear hS hcc
        have PB := hide P
        clear P
        have hc := tsideal1_any d k hd hk (HK.out.below hB1)
        clear hB1
        go_wp2_with fail
        clear k0
        refine hc.mono ?_
        rintro e w1 ⟨b2, a2, c2, x2, e2, t2, y2, rfl, F2, P2, I2, hb⟩
        clear hc
        have hsz2 := hb.size
        obtain ⟨a', cap', w', hap, P', hb'⟩ := parts_next (PB.out.out.below hb) ⟨b2, a2, c2, x2, e2, t2, y2⟩ (by omega) (by omega) (F2.mono (Nat.zero_le _)) (I2.mono (by omega)) (fun k hk => ⟨F2.up.offB (Or.inl (PB.out.out.lt k hk).2), F2.down.offB (Or.inl (PB.out.out.lt k hk).2)⟩)
        have HP2 := hide P'
        have HB2 := hide ((HB.out.trans (hb.mono hsz)).trans hb')
        rw [hcs] at hap HP2
        clear P' hb' hb F2 I2 P2 PB
        go_wp2_with (at_builtin; refine Lib.wpList_append_run _ rfl _ _ _ _ rfl _ _ rfl rfl _ _ hap ?_)
        exact ⟨⟨1, cs ++ [⟨b2, a2, c2, x2, e2, t2, y2⟩], a', cap', by first | rfl | trivial, by go_num, by omega, by rw [List.length_append, hcs]; rfl, by rw [Hid]; simpa using HP2.out, HB2.out⟩, by simp [intOf]⟩
      · skip
        obtain rfl : i = 1 := by omega
        have hS := HS.out.below hB1
        have hcc := hS.two
        have k1 := hcc.2.1
        clear hS hcc
        have PB := hide P
        clear P
        have hc := tsspiked1_any d m hd hm g1 (HF.out.below hB1) I1 (by omega) (HM.out.below hB1) (HQ.out.below hB1) HO.out
        clear hB1
        go_wp2_with fail
        clear k1
        refine hc.mono ?_
        rintro e w1 ⟨b2, a2, c2, x2, e2, t2, y2, rfl, F2, I2, hb, hO⟩
        clear hc
        have hsz2 := hb.size
        obtain ⟨a', cap', w', hap, P', hb'⟩ := parts_next (PB.out.out.below hb) ⟨b2, a2, c2, x2, e2, t2, y2⟩ (by omega) (by omega) (F2.mono (Nat.zero_le _)) (I2.mono (by omega)) (fun k hk => hO k (by have := (PB.out.out.lt k hk).1; omega) (PB.out.out.lt k hk).2)
        have HP2 := hide P'
        have HB2 := hide ((HB.out.trans (hb.mono hsz)).trans hb')
        rw [hcs] at hap HP2
        clear P' hb' hb F2 I2 hO PB
        go_wp2_with (at_builtin; refine Lib.wpList_append_run _ rfl _ _ _ _ rfl _ _ rfl rfl _ _ hap ?_)
        exact ⟨⟨2, cs ++ [⟨b2, a2, c2, x2, e2, t2, y2⟩], a', cap', by first | rfl | trivial, by go_num, by omega, by rw [List.length_append, hcs]; rfl, by rw [Hid]; simpa using HP2.out, HB2.out⟩, by simp [intOf]⟩
set_option maxRecDepth 100000 in
set_option maxHeartbeats 4000000 in
theorem tsweigh_in (s : Int) (hs : -9223372036854775808 ≤ s ∧ s < 9223372036854775808) {a1 e1 : Option Addr} {c1 t1 : Nat} {x1 y1 : List Int} {w : World} (g1 : Bool) (F1 : Fr 0 w a1 c1 x1 e1 t1 y1) {q : Rat} (I1 : Is g1 x1 y1 q 24) (h : -9223372036854775808 ≤ wtQ s q ∧ wtQ s q ≤ 16777215) :
    Calls Tryz.prog 40 #[.int .i64 s, .agg #[.bool g1, .slice a1 x1.length c1, .slice e1 y1.length t1]] w fun e w' => e = .returned (.tuple #[.int .i64 (wtQ s q), .bool true]) ∧ Below w.heap.size w w' := by
  have HF : Hid (-9223372036854775808 ≤ wtQ s q ∧ wtQ s q < 9223372036854775808) := ⟨h.1, by omega⟩
  have HC := hide h.2
  clear h
  have hB := Below.refl w.heap.size w
  go_enter Tryz.func40, Tryz.ntmps40
  have hs0 := Nat.le_refl w.heap.size
  have hq := below_new w (.cells #[.bool g1, .slice a1 x1.length c1, .slice e1 y1.length t1] 31)
  replace F1 := F1.below hq
  have E1 := Box.put (w := w) (k := (w.heap.size)) (.cells #[.bool g1, .slice a1 x1.length c1, .slice e1 y1.length t1] 31) rfl
  replace hs0 := Nat.le_trans hs0 hq.size
  replace hB := hB.trans (hq.mono hB.size)
  clear hq
  go_wp2_with fail
  obtain ⟨u1, hname⟩ := nm hB
  rw [hname] at hs0 hB F1 E1 ⊢
  have zh1 := hB.size
  have zs1 := hs0
  clear hname hs0
  replace F1 := F1.drew
  have qE1 := E1.lt
  replace E1 := E1.drew
  refine wp_yieldsZ 9 7 [.is (.int .i64 s), (Yield.frac u1.heap.size (Rat.divInt s 1) (1)), .is (.agg #[.bool g1, .slice a1 x1.length c1, .slice e1 y1.length t1]), (Yield.row 2 24 [Rat.divInt s 1, q]), (Yield.fracE u1.heap.size (Rat.divInt s 1 * q) (60)), (Yield.fracE u1.heap.size (Rat.divInt s 1 * q) (60)), (Yield.frac u1.heap.size (Rat.divInt s 1 * q) (60)), .is (.int .i64 0), (.new u1.heap.size (.cells #[.bool false, .slice none 0 0, .slice none 0 0] 31))] (.int .i64 0) rfl (by kernel_rfl) (by kernel_rfl) (lt_cons ?_ (lt_cons ?_ (lt_cons ?_ (lt_cons ?_ (lt_cons ?_ (lt_cons ?_ (lt_cons ?_ (lt_cons ?_ (lt_cons ?_ lt_nil))))))))) ?_
  case refine_1 =>
    refine OpDoes.mk rfl ?_
    intro vs V hV hd K hK
    simp only [laidIn, lz1, lz2, lz3, lz4, lz5, lz6, if_true, Act.put, lz7, lz8, lz9] at hK ⊢
    go_simp
    exact hK.out _ _ ((Below.refl _ _).a1 _) ⟨_, rfl, Box.new _ _, hV.size⟩ (fresh_apart _ _ (fresh_new _))
  case refine_2 =>
    refine OpDoes.mk rfl ?_
    intro vs V hV hd K hK
    have hh := fun (P : Prop) => Yield.fracE_elim P (show ((Yield.fracE u1.heap.size (Rat.divInt s 1 * q) (60)) : Yield).At (vs 5) V from hd 5 (by decide) (by kernel_rfl))
    refine hh _ ?_
    intro g5 a5 c5 x5 e5 t5 y5 d5 F5 P5 I5
    clear hh
    simp only [laidIn, lz1, lz2, lz3, lz4, lz5, lz6, if_true, Act.put, lz7, lz8, lz9] at hK ⊢
    simp only [d5] at hK ⊢
    go_simp
    exact hK.out _ _ (Below.refl _ _) rfl (not_fresh rfl)
  case refine_3 =>
    refine OpDoes.mk rfl ?_
    intro vs V hV hd K hK
    have hh := fun (P : Prop) => Yield.fracE_elim P (show ((Yield.fracE u1.heap.size (Rat.divInt s 1 * q) (60)) : Yield).At (vs 5) V from hd 5 (by decide) (by kernel_rfl))
    refine hh _ ?_
    intro g5 a5 c5 x5 e5 t5 y5 d5 F5 P5 I5
    clear hh
    simp only [laidIn, lz1, lz2, lz3, lz4, lz5, lz6, if_true, Act.put, lz7, lz8, lz9] at hK ⊢
    simp only [d5] at hK ⊢
    go_simp
    exact hK.out _ _ (Below.refl _ _) ⟨_, _, _, _, _, _, _, rfl, F5, P5, I5⟩ (not_fresh rfl)
  case refine_4 =>
    refine OpDoes.mk rfl ?_
    intro vs V hV hd K hK
    have hh := fun (P : Prop) => Yield.fracE_elim P (show ((Yield.fracE u1.heap.size (Rat.divInt s 1 * q) (60)) : Yield).At (vs 4) V from hd 4 (by decide) (by kernel_rfl))
    refine hh _ ?_
    intro g3 a3 c3 x3 e3 t3 y3 d4 F3 P3 I3
    clear hh
    simp only [laidIn, lz1, lz2, lz3, lz4, lz5, lz6, if_true, Act.put, lz7, lz8, lz9] at hK ⊢
    simp only [d4] at hK ⊢
    go_simp
    exact hK.out _ _ (Below.refl _ _) ⟨_, _, _, _, _, _, _, rfl, F3, P3, I3⟩ (not_fresh rfl)
  case refine_5 =>
    refine OpDoes.mk rfl ?_
    intro vs V hV hd K hK
    have hh := fun (P : Prop) => Yield.row_elim P (show ((Yield.row 2 24 [Rat.divInt s 1, q]) : Yield).At (vs 3) V from hd 3 (by decide) (by kernel_rfl))
    refine hh _ ?_
    intro k4 r4 d3 J4 R4 L4 G4 Q4
    clear hh
    simp only [laidIn, lz1, lz2, lz3, lz4, lz5, lz6, if_true, Act.put, lz7, lz8, lz9] at hK ⊢
    simp only [d3] at hK ⊢
    go_simp
    go_at_call 58
    refine (pmul_row J4 R4 L4 G4 Q4 (by omega) (by omega)).mono ?_
    rintro e V' ⟨g3, a3, c3, x3, e3, t3, y3, rfl, F3, P3, I3, hb⟩
    replace I3 : Is g3 x3 y3 (Rat.divInt s 1 * q) (60) := (I3.mono (by omega)).to (two_mul _ _)
    exact hK.out _ _ hb ⟨_, _, _, _, _, _, _, rfl, F3.mono hV.size, P3, I3⟩ (not_fresh rfl)
  case refine_6 =>
    refine OpDoes.mk rfl ?_
    intro vs V hV hd K hK
    have hh := fun (P : Prop) => Yield.frac_elim P (show ((Yield.frac u1.heap.size (Rat.divInt s 1) (1)) : Yield).At (vs 1) V from hd 1 (by decide) (by kernel_rfl))
    refine hh _ ?_
    intro g2 a2 c2 x2 e2 t2 y2 d1 F2 P2 I2
    clear hh
    have d2 : vs 2 = .agg #[.bool g1, .slice a1 x1.length c1, .slice e1 y1.length t1] := hd 2 (by decide) (by kernel_rfl)
    simp only [laidIn, lz1, lz2, lz3, lz4, lz5, lz6, if_true, Act.put, lz7, lz8, lz9] at hK ⊢
    simp only [d1, d2] at hK ⊢
    go_simp
    exact hK.out _ _ ((Below.refl _ _).a1 _) (Yield.row_two ⟨g2, a2, c2, x2, e2, t2, y2⟩ ⟨g1, a1, c1, x1, e1, t1, y1⟩ (F2.mono (Nat.zero_le _)) I2 ((F1.below hV).mono (Nat.zero_le _)) I1 (by omega) (by omega)) (not_fresh rfl)
  case refine_7 =>
    refine OpDoes.mk rfl ?_
    intro vs V hV hd K hK
    have hcc := (E1.below hV).three
    have k0 := hcc.1
    have k1 := hcc.2.1
    have k2 := hcc.2.2.1
    clear hcc
    simp only [laidIn, lz1, lz2, lz3, lz4, lz5, lz6, if_true, Act.put, lz7, lz8, lz9] at hK ⊢
    go_simp
    exact hK.out _ _ (Below.refl _ _) rfl (not_fresh rfl)
  case refine_8 =>
    refine OpDoes.mk rfl ?_
    intro vs V hV hd K hK
    have d0 : vs 0 = .int .i64 s := hd 0 (by decide) (by kernel_rfl)
    simp only [laidIn, lz1, lz2, lz3, lz4, lz5, lz6, if_true, Act.put, lz7, lz8, lz9] at hK ⊢
    simp only [d0] at hK ⊢
    go_simp
    go_at_call 43
    refine (tspart_any s 1 hs (by decide) (by decide) _).mono ?_
    rintro e V' ⟨g2, a2, c2, x2, e2, t2, y2, rfl, F2, P2, I2, hb⟩
    replace I2 : Is g2 x2 y2 (Rat.divInt s 1) (1) := I2.mono (by omega)
    exact hK.out _ _ hb ⟨_, _, _, _, _, _, _, rfl, F2.mono hV.size, P2, I2⟩ (not_fresh rfl)
  case refine_9 =>
    refine OpDoes.mk rfl ?_
    intro vs V hV hd K hK
    simp only [laidIn, lz1, lz2, lz4, lz5, lz6, if_true, Act.put, lz7, lz8, lz9] at hK ⊢
    go_simp
    exact hK.out _ _ (Below.refl _ _) rfl (not_fresh rfl)
  case refine_10 =>
    intro vs Y1 hV hR hne fuel
    have d0 : vs 0 = .int .i64 s := hR 0 (by decide)
    have hh := fun (P : Prop) => Yield.frac_elim P (show ((Yield.frac u1.heap.size (Rat.divInt s 1) (1)) : Yield).At (vs 1) Y1 from hR 1 (by decide))
    refine hh _ ?_
    intro g2 a2 c2 x2 e2 t2 y2 d1 F2 P2 I2
    clear hh
    have d2 : vs 2 = .agg #[.bool g1, .slice a1 x1.length c1, .slice e1 y1.length t1] := hR 2 (by decide)
    have hh := fun (P : Prop) => Yield.row_elim P (show ((Yield.row 2 24 [Rat.divInt s 1, q]) : Yield).At (vs 3) Y1 from hR 3 (by decide))
    refine hh _ ?_
    intro k4 r4 d3 J4 R4 L4 G4 Q4
    clear hh
    have hh := fun (P : Prop) => Yield.fracE_elim P (show ((Yield.fracE u1.heap.size (Rat.divInt s 1 * q) (60)) : Yield).At (vs 4) Y1 from hR 4 (by decide))
    refine hh _ ?_
    intro g3 a3 c3 x3 e3 t3 y3 d4 F3 P3 I3
    clear hh
    have hh := fun (P : Prop) => Yield.fracE_elim P (show ((Yield.fracE u1.heap.size (Rat.divInt s 1 * q) (60)) : Yield).At (vs 5) Y1 from hR 5 (by decide))
    refine hh _ ?_
    intro g5 a5 c5 x5 e5 t5 y5 d5 F5 P5 I5
    clear hh
    have hh := fun (P : Prop) => Yield.frac_elim P (show ((Yield.frac u1.heap.size (Rat.divInt s 1 * q) (60)) : Yield).At (vs 6) Y1 from hR 6 (by decide))
    refine hh _ ?_
    intro g6 a6 c6 x6 e6 t6 y6 d6 F6 P6 I6
    clear hh
    have d7 : vs 7 = .int .i64 0 := hR 7 (by decide)
    obtain ⟨k_E91, d8, E91, l_E91⟩ := (show ((.new u1.heap.size (.cells #[.bool false, .slice none 0 0, .slice none 0 0] 31)) : Yield).At (vs 8) Y1 from hR 8 (by decide))
    replace F1 := F1.below hV
    replace E1 := E1.below hV
    have hr := hV
    clear hR hne hV
    have hcc := E91.three
    have k0 := hcc.1
    have k1 := hcc.2.1
    have k2 := hcc.2.2.1
    have f0 := hcc.2.2.2.1
    have f1 := hcc.2.2.2.2.1
    have f2 := hcc.2.2.2.2.2
    clear hcc
    apply mp_of
    case f =>
      intro hgoal
      constructor
      · skip
        simp only [laidIn, lz4, lz5, lz6, if_true, Act.put, lz7, lz8, lz9]
        simp only [d0, d1, d2, d3, d4, d5, d6, d7, d8]
        show wpAny _ _ _ _ (fuel + 2) _ _ _
        refine wpAny_all (rs := [9]) (by kernel_rfl) (by simp) (fun i hi => ?_)
        obtain rfl : i = 9 := by simpa using hi
        clear hi
        refine wpOp_step rfl (fun K hK => ?_)
        simp only [lz1, lz2, lz3]
        rw [if_pos (by rfl)]
        go_simp
        refine hK _ _ ?_
        clear hK
        refine wpAny_all (rs := [10]) (by kernel_rfl) (by simp) (fun i hi => ?_)
        obtain rfl : i = 10 := by simpa using hi
        clear hi
        refine wpOp_step rfl (fun K hK => ?_)
        simp only [lz1, lz2, lz3]
        rw [if_pos (by rfl)]
        go_simp
        refine hK _ _ ?_
        clear hK
        refine wpAny_done (by kernel_rfl) ?_ _
        exact hgoal
      · skip
        simp only [laidIn, lz4, lz5, lz6, if_true, Act.put, lz7, lz8, lz9, Bool.false_eq_true, if_false, show ((0 : Nat) != 7) = true from rfl, show ((1 : Nat) != 7) = true from rfl, show ((2 : Nat) != 7) = true from rfl, show ((3 : Nat) != 7) = true from rfl, show ((4 : Nat) != 7) = true from rfl, show ((5 : Nat) != 7) = true from rfl, show ((6 : Nat) != 7) = true from rfl, show ((7 : Nat) != 7) = false from rfl, show ((8 : Nat) != 7) = true from rfl]
        simp only [d0, d1, d2, d3, d4, d5, d6, d8]
        show wpAny _ _ _ _ (fuel + 3) _ _ _
        refine wpAny_all (rs := [7, 9]) (by kernel_rfl) (by simp) (fun i hi => ?_)
        rcases (show i = 7 ∨ i = 9 by simpa using hi) with rfl | rfl
        · clear hi
          refine wpOp_step rfl (fun K hK => ?_)
          simp only [lz1, lz2, lz3]
          rw [if_pos (by rfl)]
          go_simp
          refine hK _ _ ?_
          clear hK
          refine wpAny_all (rs := [9]) (by kernel_rfl) (by simp) (fun i hi => ?_)
          obtain rfl : i = 9 := by simpa using hi
          clear hi
          refine wpOp_step rfl (fun K hK => ?_)
          simp only [lz1, lz2, lz3]
          rw [if_pos (by rfl)]
          go_simp
          refine hK _ _ ?_
          clear hK
          refine wpAny_all (rs := [10]) (by kernel_rfl) (by simp) (fun i hi => ?_)
          obtain rfl : i = 10 := by simpa using hi
          clear hi
          refine wpOp_step rfl (fun K hK => ?_)
          simp only [lz1, lz2, lz3]
          rw [if_pos (by rfl)]
          go_simp
          refine hK _ _ ?_
          clear hK
          refine wpAny_done (by kernel_rfl) ?_ _
          exact hgoal
        · clear hi
          refine wpOp_step rfl (fun K hK => ?_)
          simp only [lz1, lz2, lz3]
          rw [if_pos (by rfl)]
          go_simp
          refine hK _ _ ?_
          clear hK
          refine wpAny_all (rs := [7]) (by kernel_rfl) (by simp) (fun i hi => ?_)
          obtain rfl : i = 7 := by simpa using hi
          clear hi
          refine wpOp_step rfl (fun K hK => ?_)
          simp only [lz1, lz2, lz3]
          rw [if_pos (by rfl)]
          go_simp
          refine hK _ _ ?_
          clear hK
          refine wpAny_all (rs := [10]) (by kernel_rfl) (by simp) (fun i hi => ?_)
          obtain rfl : i = 10 := by simpa using hi
          clear hi
          refine wpOp_step rfl (fun K hK => ?_)
          simp only [lz1, lz2, lz3]
          rw [if_pos (by rfl)]
          go_simp
          refine hK _ _ ?_
          clear hK
          refine wpAny_done (by kernel_rfl) ?_ _
          exact hgoal
    case p =>
      clear k0 f0 k1 f1 k2 f2
      have hT := turns3 (k_E91) Y1 (.bool g6) (.slice a6 x6.length c6) (.slice e6 y6.length t6)
      replace F1 := F1.beside E91 (noWord3 (fun _ e => by cases e) (fun _ e => by cases e) (fun _ e => by cases e)) hT
      replace E1 := E1.turns hT (by omega)
      replace F2 := F2.beside E91 (noWord3 (fun _ e => by cases e) (fun _ e => by cases e) (fun _ e => by cases e)) hT
      replace F3 := F3.beside E91 (noWord3 (fun _ e => by cases e) (fun _ e => by cases e) (fun _ e => by cases e)) hT
      replace F5 := F5.beside E91 (noWord3 (fun _ e => by cases e) (fun _ e => by cases e) (fun _ e => by cases e)) hT
      replace F6 := F6.beside E91 (noWord3 (fun _ e => by cases e) (fun _ e => by cases e) (fun _ e => by cases e)) hT
      replace E91 := Box.set3 (.bool g6) (.slice a6 x6.length c6) (.slice e6 y6.length t6) E91
      have hr9 := hT.below
      obtain ⟨X1, hX⟩ := nm hT.below
      rw [hX] at F1 E1 F2 F3 F5 F6 E91 hr9 ⊢
      clear hX hT
      replace hB := hB.trans ((Below.trans (Below.drew (Below.refl u1.heap.size u1)) hr).mono hB.size)
      replace hB := hB.trans (hr9.mono (by omega))
      have zz1_1 := hr.size
      have zi1 := hB.size
      have zy1_9 := hr9.size
      clear hr hr9
      clear d0 d1 d2 d3 d4 d5 d6 d7 d8
      clear vs
      obtain ⟨k0, k1, k2, f0, f1, f2⟩ := E91.three
      go_wp2_with fail
      clear k0 k1 k2 f0 f1 f2
      refine (pround_ok g6 F6 I6 (by omega)).mono ?_
      rintro e w2 ⟨g7, a7, c7, z7, rfl, S7, N7, V7, b7, hb⟩
      have HV7 : Hid (sgn g7 (val z7) = wtQ s q) := V7.out.trans (I6.rnd F6.up.words)
      replace F1 := F1.below hb
      replace E1 := E1.below hb
      replace F2 := F2.below hb
      replace F3 := F3.below hb
      replace F5 := F5.below hb
      replace F6 := F6.below hb
      replace E91 := E91.below hb
      replace hB := hB.trans (hb.mono hB.size)
      have zz2 := hb.size
      have zh2 := hB.size
      clear hb
      have qE1 := E1.lt
      have qE91 := E91.lt
      have hs0 := Nat.le_refl w2.heap.size
      have hq := below_new w2 (.cells #[.bool g7, .slice a7 z7.length c7] 29)
      replace F1 := F1.below hq
      replace E1 := E1.below hq
      replace F2 := F2.below hq
      replace F3 := F3.below hq
      replace F5 := F5.below hq
      replace F6 := F6.below hq
      replace E91 := E91.below hq
      replace S7 := S7.below hq
      have EW7 := Box.put (w := w2) (k := (w2.heap.size)) (.cells #[.bool g7, .slice a7 z7.length c7] 29) rfl
      replace hs0 := Nat.le_trans hs0 hq.size
      replace hB := hB.trans (hq.mono hB.size)
      clear hq
      go_wp2_with fail
      obtain ⟨u3, hname⟩ := nm hB
      rw [hname] at hs0 hB F1 E1 F2 F3 F5 F6 E91 S7 EW7 ⊢
      have zh3 := hB.size
      have zs3 := hs0
      clear hname hs0
      have hk := sone_any g7 S7 (by omega)
      rw [HV7.out, oneI, if_pos HF.out] at hk
      refine (hk).mono ?_
      rintro e w4 ⟨rfl, hb⟩
      replace F1 := F1.below hb
      replace E1 := E1.below hb
      replace F2 := F2.below hb
      replace F3 := F3.below hb
      replace F5 := F5.below hb
      replace F6 := F6.below hb
      replace E91 := E91.below hb
      replace S7 := S7.below hb
      replace EW7 := EW7.below hb
      replace hB := hB.trans (hb.mono hB.size)
      have zz4 := hb.size
      have zh4 := hB.size
      clear hb
      clear hk
      obtain ⟨v, hv⟩ : ∃ v, wtQ s q = v := ⟨_, rfl⟩
      have hc := HC.out
      rw [hv] at hc ⊢
      have HVV := hide hv
      clear hv
      go_wp2
      go_ret2
      exact ⟨by rw [HVV.out]; rfl, hB⟩
set_option maxRecDepth 100000 in
set_option maxHeartbeats 4000000 in
theorem tsweigh_big (s : Int) (hs : -9223372036854775808 ≤ s ∧ s < 9223372036854775808) {a1 e1 : Option Addr} {c1 t1 : Nat} {x1 y1 : List Int} {w : World} (g1 : Bool) (F1 : Fr 0 w a1 c1 x1 e1 t1 y1) {q : Rat} (I1 : Is g1 x1 y1 q 24) (h : -9223372036854775808 ≤ wtQ s q ∧ wtQ s q < 9223372036854775808) (h2 : 16777215 < wtQ s q) :
    Calls Tryz.prog 40 #[.int .i64 s, .agg #[.bool g1, .slice a1 x1.length c1, .slice e1 y1.length t1]] w fun e w' => ∃ v, e = .returned (.tuple #[.int .i64 v, .bool false]) ∧ Below w.heap.size w w' := by
  have HF := hide h
  have HC := hide h2
  clear h h2
  have hB := Below.refl w.heap.size w
  go_enter Tryz.func40, Tryz.ntmps40
  have hs0 := Nat.le_refl w.heap.size
  have hq := below_new w (.cells #[.bool g1, .slice a1 x1.length c1, .slice e1 y1.length t1] 31)
  replace F1 := F1.below hq
  have E1 := Box.put (w := w) (k := (w.heap.size)) (.cells #[.bool g1, .slice a1 x1.length c1, .slice e1 y1.length t1] 31) rfl
  replace hs0 := Nat.le_trans hs0 hq.size
  replace hB := hB.trans (hq.mono hB.size)
  clear hq
  go_wp2_with fail
  obtain ⟨u1, hname⟩ := nm hB
  rw [hname] at hs0 hB F1 E1 ⊢
  have zh1 := hB.size
  have zs1 := hs0
  clear hname hs0
  replace F1 := F1.drew
  have qE1 := E1.lt
  replace E1 := E1.drew
  refine wp_yieldsZ 9 7 [.is (.int .i64 s), (Yield.frac u1.heap.size (Rat.divInt s 1) (1)), .is (.agg #[.bool g1, .slice a1 x1.length c1, .slice e1 y1.length t1]), (Yield.row 2 24 [Rat.divInt s 1, q]), (Yield.fracE u1.heap.size (Rat.divInt s 1 * q) (60)), (Yield.fracE u1.heap.size (Rat.divInt s 1 * q) (60)), (Yield.frac u1.heap.size (Rat.divInt s 1 * q) (60)), .is (.int .i64 0), (.new u1.heap.size (.cells #[.bool false, .slice none 0 0, .slice none 0 0] 31))] (.int .i64 0) rfl (by kernel_rfl) (by kernel_rfl) (lt_cons ?_ (lt_cons ?_ (lt_cons ?_ (lt_cons ?_ (lt_cons ?_ (lt_cons ?_ (lt_cons ?_ (lt_cons ?_ (lt_cons ?_ lt_nil))))))))) ?_
  case refine_1 =>
    refine OpDoes.mk rfl ?_
    intro vs V hV hd K hK
    simp only [laidIn, lz1, lz2, lz3, lz4, lz5, lz6, if_true, Act.put, lz7, lz8, lz9] at hK ⊢
    go_simp
    exact hK.out _ _ ((Below.refl _ _).a1 _) ⟨_, rfl, Box.new _ _, hV.size⟩ (fresh_apart _ _ (fresh_new _))
  case refine_2 =>
    refine OpDoes.mk rfl ?_
    intro vs V hV hd K hK
    have hh := fun (P : Prop) => Yield.fracE_elim P (show ((Yield.fracE u1.heap.size (Rat.divInt s 1 * q) (60)) : Yield).At (vs 5) V from hd 5 (by decide) (by kernel_rfl))
    refine hh _ ?_
    intro g5 a5 c5 x5 e5 t5 y5 d5 F5 P5 I5
    clear hh
    simp only [laidIn, lz1, lz2, lz3, lz4, lz5, lz6, if_true, Act.put, lz7, lz8, lz9] at hK ⊢
    simp only [d5] at hK ⊢
    go_simp
    exact hK.out _ _ (Below.refl _ _) rfl (not_fresh rfl)
  case refine_3 =>
    refine OpDoes.mk rfl ?_
    intro vs V hV hd K hK
    have hh := fun (P : Prop) => Yield.fracE_elim P (show ((Yield.fracE u1.heap.size (Rat.divInt s 1 * q) (60)) : Yield).At (vs 5) V from hd 5 (by decide) (by kernel_rfl))
    refine hh _ ?_
    intro g5 a5 c5 x5 e5 t5 y5 d5 F5 P5 I5
    clear hh
    simp only [laidIn, lz1, lz2, lz3, lz4, lz5, lz6, if_true, Act.put, lz7, lz8, lz9] at hK ⊢
    simp only [d5] at hK ⊢
    go_simp
    exact hK.out _ _ (Below.refl _ _) ⟨_, _, _, _, _, _, _, rfl, F5, P5, I5⟩ (not_fresh rfl)
  case refine_4 =>
    refine OpDoes.mk rfl ?_
    intro vs V hV hd K hK
    have hh := fun (P : Prop) => Yield.fracE_elim P (show ((Yield.fracE u1.heap.size (Rat.divInt s 1 * q) (60)) : Yield).At (vs 4) V from hd 4 (by decide) (by kernel_rfl))
    refine hh _ ?_
    intro g3 a3 c3 x3 e3 t3 y3 d4 F3 P3 I3
    clear hh
    simp only [laidIn, lz1, lz2, lz3, lz4, lz5, lz6, if_true, Act.put, lz7, lz8, lz9] at hK ⊢
    simp only [d4] at hK ⊢
    go_simp
    exact hK.out _ _ (Below.refl _ _) ⟨_, _, _, _, _, _, _, rfl, F3, P3, I3⟩ (not_fresh rfl)
  case refine_5 =>
    refine OpDoes.mk rfl ?_
    intro vs V hV hd K hK
    have hh := fun (P : Prop) => Yield.row_elim P (show ((Yield.row 2 24 [Rat.divInt s 1, q]) : Yield).At (vs 3) V from hd 3 (by decide) (by kernel_rfl))
    refine hh _ ?_
    intro k4 r4 d3 J4 R4 L4 G4 Q4
    clear hh
    simp only [laidIn, lz1, lz2, lz3, lz4, lz5, lz6, if_true, Act.put, lz7, lz8, lz9] at hK ⊢
    simp only [d3] at hK ⊢
    go_simp
    go_at_call 58
    refine (pmul_row J4 R4 L4 G4 Q4 (by omega) (by omega)).mono ?_
    rintro e V' ⟨g3, a3, c3, x3, e3, t3, y3, rfl, F3, P3, I3, hb⟩
    replace I3 : Is g3 x3 y3 (Rat.divInt s 1 * q) (60) := (I3.mono (by omega)).to (two_mul _ _)
    exact hK.out _ _ hb ⟨_, _, _, _, _, _, _, rfl, F3.mono hV.size, P3, I3⟩ (not_fresh rfl)
  case refine_6 =>
    refine OpDoes.mk rfl ?_
    intro vs V hV hd K hK
    have hh := fun (P : Prop) => Yield.frac_elim P (show ((Yield.frac u1.heap.size (Rat.divInt s 1) (1)) : Yield).At (vs 1) V from hd 1 (by decide) (by kernel_rfl))
    refine hh _ ?_
    intro g2 a2 c2 x2 e2 t2 y2 d1 F2 P2 I2
    clear hh
    have d2 : vs 2 = .agg #[.bool g1, .slice a1 x1.length c1, .slice e1 y1.length t1] := hd 2 (by decide) (by kernel_rfl)
    simp only [laidIn, lz1, lz2, lz3, lz4, lz5, lz6, if_true, Act.put, lz7, lz8, lz9] at hK ⊢
    simp only [d1, d2] at hK ⊢
    go_simp
    exact hK.out _ _ ((Below.refl _ _).a1 _) (Yield.row_two ⟨g2, a2, c2, x2, e2, t2, y2⟩ ⟨g1, a1, c1, x1, e1, t1, y1⟩ (F2.mono (Nat.zero_le _)) I2 ((F1.below hV).mono (Nat.zero_le _)) I1 (by omega) (by omega)) (not_fresh rfl)
  case refine_7 =>
    refine OpDoes.mk rfl ?_
    intro vs V hV hd K hK
    have hcc := (E1.below hV).three
    have k0 := hcc.1
    have k1 := hcc.2.1
    have k2 := hcc.2.2.1
    clear hcc
    simp only [laidIn, lz1, lz2, lz3, lz4, lz5, lz6, if_true, Act.put, lz7, lz8, lz9] at hK ⊢
    go_simp
    exact hK.out _ _ (Below.refl _ _) rfl (not_fresh rfl)
  case refine_8 =>
    refine OpDoes.mk rfl ?_
    intro vs V hV hd K hK
    have d0 : vs 0 = .int .i64 s := hd 0 (by decide) (by kernel_rfl)
    simp only [laidIn, lz1, lz2, lz3, lz4, lz5, lz6, if_true, Act.put, lz7, lz8, lz9] at hK ⊢
    simp only [d0] at hK ⊢
    go_simp
    go_at_call 43
    refine (tspart_any s 1 hs (by decide) (by decide) _).mono ?_
    rintro e V' ⟨g2, a2, c2, x2, e2, t2, y2, rfl, F2, P2, I2, hb⟩
    replace I2 : Is g2 x2 y2 (Rat.divInt s 1) (1) := I2.mono (by omega)
    exact hK.out _ _ hb ⟨_, _, _, _, _, _, _, rfl, F2.mono hV.size, P2, I2⟩ (not_fresh rfl)
  case refine_9 =>
    refine OpDoes.mk rfl ?_
    intro vs V hV hd K hK
    simp only [laidIn, lz1, lz2, lz4, lz5, lz6, if_true, Act.put, lz7, lz8, lz9] at hK ⊢
    go_simp
    exact hK.out _ _ (Below.refl _ _) rfl (not_fresh rfl)
  case refine_10 =>
    intro vs Y1 hV hR hne fuel
    have d0 : vs 0 = .int .i64 s := hR 0 (by decide)
    have hh := fun (P : Prop) => Yield.frac_elim P (show ((Yield.frac u1.heap.size (Rat.divInt s 1) (1)) : Yield).At (vs 1) Y1 from hR 1 (by decide))
    refine hh _ ?_
    intro g2 a2 c2 x2 e2 t2 y2 d1 F2 P2 I2
    clear hh
    have d2 : vs 2 = .agg #[.bool g1, .slice a1 x1.length c1, .slice e1 y1.length t1] := hR 2 (by decide)
    have hh := fun (P : Prop) => Yield.row_elim P (show ((Yield.row 2 24 [Rat.divInt s 1, q]) : Yield).At (vs 3) Y1 from hR 3 (by decide))
    refine hh _ ?_
    intro k4 r4 d3 J4 R4 L4 G4 Q4
    clear hh
    have hh := fun (P : Prop) => Yield.fracE_elim P (show ((Yield.fracE u1.heap.size (Rat.divInt s 1 * q) (60)) : Yield).At (vs 4) Y1 from hR 4 (by decide))
    refine hh _ ?_
    intro g3 a3 c3 x3 e3 t3 y3 d4 F3 P3 I3
    clear hh
    have hh := fun (P : Prop) => Yield.fracE_elim P (show ((Yield.fracE u1.heap.size (Rat.divInt s 1 * q) (60)) : Yield).At (vs 5) Y1 from hR 5 (by decide))
    refine hh _ ?_
    intro g5 a5 c5 x5 e5 t5 y5 d5 F5 P5 I5
    clear hh
    have hh := fun (P : Prop) => Yield.frac_elim P (show ((Yield.frac u1.heap.size (Rat.divInt s 1 * q) (60)) : Yield).At (vs 6) Y1 from hR 6 (by decide))
    refine hh _ ?_
    intro g6 a6 c6 x6 e6 t6 y6 d6 F6 P6 I6
    clear hh
    have d7 : vs 7 = .int .i64 0 := hR 7 (by decide)
    obtain ⟨k_E91, d8, E91, l_E91⟩ := (show ((.new u1.heap.size (.cells #[.bool false, .slice none 0 0, .slice none 0 0] 31)) : Yield).At (vs 8) Y1 from hR 8 (by decide))
    replace F1 := F1.below hV
    replace E1 := E1.below hV
    have hr := hV
    clear hR hne hV
    have hcc := E91.three
    have k0 := hcc.1
    have k1 := hcc.2.1
    have k2 := hcc.2.2.1
    have f0 := hcc.2.2.2.1
    have f1 := hcc.2.2.2.2.1
    have f2 := hcc.2.2.2.2.2
    clear hcc
    apply mp_of
    case f =>
      intro hgoal
      constructor
      · skip
        simp only [laidIn, lz4, lz5, lz6, if_true, Act.put, lz7, lz8, lz9]
        simp only [d0, d1, d2, d3, d4, d5, d6, d7, d8]
        show wpAny _ _ _ _ (fuel + 2) _ _ _
        refine wpAny_all (rs := [9]) (by kernel_rfl) (by simp) (fun i hi => ?_)
        obtain rfl : i = 9 := by simpa using hi
        clear hi
        refine wpOp_step rfl (fun K hK => ?_)
        simp only [lz1, lz2, lz3]
        rw [if_pos (by rfl)]
        go_simp
        refine hK _ _ ?_
        clear hK
        refine wpAny_all (rs := [10]) (by kernel_rfl) (by simp) (fun i hi => ?_)
        obtain rfl : i = 10 := by simpa using hi
        clear hi
        refine wpOp_step rfl (fun K hK => ?_)
        simp only [lz1, lz2, lz3]
        rw [if_pos (by rfl)]
        go_simp
        refine hK _ _ ?_
        clear hK
        refine wpAny_done (by kernel_rfl) ?_ _
        exact hgoal
      · skip
        simp only [laidIn, lz4, lz5, lz6, if_true, Act.put, lz7, lz8, lz9, Bool.false_eq_true, if_false, show ((0 : Nat) != 7) = true from rfl, show ((1 : Nat) != 7) = true from rfl, show ((2 : Nat) != 7) = true from rfl, show ((3 : Nat) != 7) = true from rfl, show ((4 : Nat) != 7) = true from rfl, show ((5 : Nat) != 7) = true from rfl, show ((6 : Nat) != 7) = true from rfl, show ((7 : Nat) != 7) = false from rfl, show ((8 : Nat) != 7) = true from rfl]
        simp only [d0, d1, d2, d3, d4, d5, d6, d8]
        show wpAny _ _ _ _ (fuel + 3) _ _ _
        refine wpAny_all (rs := [7, 9]) (by kernel_rfl) (by simp) (fun i hi => ?_)
        rcases (show i = 7 ∨ i = 9 by simpa using hi) with rfl | rfl
        · clear hi
          refine wpOp_step rfl (fun K hK => ?_)
          simp only [lz1, lz2, lz3]
          rw [if_pos (by rfl)]
          go_simp
          refine hK _ _ ?_
          clear hK
          refine wpAny_all (rs := [9]) (by kernel_rfl) (by simp) (fun i hi => ?_)
          obtain rfl : i = 9 := by simpa using hi
          clear hi
          refine wpOp_step rfl (fun K hK => ?_)
          simp only [lz1, lz2, lz3]
          rw [if_pos (by rfl)]
          go_simp
          refine hK _ _ ?_
          clear hK
          refine wpAny_all (rs := [10]) (by kernel_rfl) (by simp) (fun i hi => ?_)
          obtain rfl : i = 10 := by simpa using hi
          clear hi
          refine wpOp_step rfl (fun K hK => ?_)
          simp only [lz1, lz2, lz3]
          rw [if_pos (by rfl)]
          go_simp
          refine hK _ _ ?_
          clear hK
          refine wpAny_done (by kernel_rfl) ?_ _
          exact hgoal
        · clear hi
          refine wpOp_step rfl (fun K hK => ?_)
          simp only [lz1, lz2, lz3]
          rw [if_pos (by rfl)]
          go_simp
          refine hK _ _ ?_
          clear hK
          refine wpAny_all (rs := [7]) (by kernel_rfl) (by simp) (fun i hi => ?_)
          obtain rfl : i = 7 := by simpa using hi
          clear hi
          refine wpOp_step rfl (fun K hK => ?_)
          simp only [lz1, lz2, lz3]
          rw [if_pos (by rfl)]
          go_simp
          refine hK _ _ ?_
          clear hK
          refine wpAny_all (rs := [10]) (by kernel_rfl) (by simp) (fun i hi => ?_)
          obtain rfl : i = 10 := by simpa using hi
          clear hi
          refine wpOp_step rfl (fun K hK => ?_)
          simp only [lz1, lz2, lz3]
          rw [if_pos (by rfl)]
          go_simp
          refine hK _ _ ?_
          clear hK
          refine wpAny_done (by kernel_rfl) ?_ _
          exact hgoal
    case p =>
      clear k0 f0 k1 f1 k2 f2
      have hT := turns3 (k_E91) Y1 (.bool g6) (.slice a6 x6.length c6) (.slice e6 y6.length t6)
      replace F1 := F1.beside E91 (noWord3 (fun _ e => by cases e) (fun _ e => by cases e) (fun _ e => by cases e)) hT
      replace E1 := E1.turns hT (by omega)
      replace F2 := F2.beside E91 (noWord3 (fun _ e => by cases e) (fun _ e => by cases e) (fun _ e => by cases e)) hT
      replace F3 := F3.beside E91 (noWord3 (fun _ e => by cases e) (fun _ e => by cases e) (fun _ e => by cases e)) hT
      replace F5 := F5.beside E91 (noWord3 (fun _ e => by cases e) (fun _ e => by cases e) (fun _ e => by cases e)) hT
      replace F6 := F6.beside E91 (noWord3 (fun _ e => by cases e) (fun _ e => by cases e) (fun _ e => by cases e)) hT
      replace E91 := Box.set3 (.bool g6) (.slice a6 x6.length c6) (.slice e6 y6.length t6) E91
      have hr9 := hT.below
      obtain ⟨X1, hX⟩ := nm hT.below
      rw [hX] at F1 E1 F2 F3 F5 F6 E91 hr9 ⊢
      clear hX hT
      replace hB := hB.trans ((Below.trans (Below.drew (Below.refl u1.heap.size u1)) hr).mono hB.size)
      replace hB := hB.trans (hr9.mono (by omega))
      have zz1_1 := hr.size
      have zi1 := hB.size
      have zy1_9 := hr9.size
      clear hr hr9
      clear d0 d1 d2 d3 d4 d5 d6 d7 d8
      clear vs
      obtain ⟨k0, k1, k2, f0, f1, f2⟩ := E91.three
      go_wp2_with fail
      clear k0 k1 k2 f0 f1 f2
      refine (pround_ok g6 F6 I6 (by omega)).mono ?_
      rintro e w2 ⟨g7, a7, c7, z7, rfl, S7, N7, V7, b7, hb⟩
      have HV7 : Hid (sgn g7 (val z7) = wtQ s q) := V7.out.trans (I6.rnd F6.up.words)
      replace F1 := F1.below hb
      replace E1 := E1.below hb
      replace F2 := F2.below hb
      replace F3 := F3.below hb
      replace F5 := F5.below hb
      replace F6 := F6.below hb
      replace E91 := E91.below hb
      replace hB := hB.trans (hb.mono hB.size)
      have zz2 := hb.size
      have zh2 := hB.size
      clear hb
      have qE1 := E1.lt
      have qE91 := E91.lt
      have hs0 := Nat.le_refl w2.heap.size
      have hq := below_new w2 (.cells #[.bool g7, .slice a7 z7.length c7] 29)
      replace F1 := F1.below hq
      replace E1 := E1.below hq
      replace F2 := F2.below hq
      replace F3 := F3.below hq
      replace F5 := F5.below hq
      replace F6 := F6.below hq
      replace E91 := E91.below hq
      replace S7 := S7.below hq
      have EW7 := Box.put (w := w2) (k := (w2.heap.size)) (.cells #[.bool g7, .slice a7 z7.length c7] 29) rfl
      replace hs0 := Nat.le_trans hs0 hq.size
      replace hB := hB.trans (hq.mono hB.size)
      clear hq
      go_wp2_with fail
      obtain ⟨u3, hname⟩ := nm hB
      rw [hname] at hs0 hB F1 E1 F2 F3 F5 F6 E91 S7 EW7 ⊢
      have zh3 := hB.size
      have zs3 := hs0
      clear hname hs0
      have hk := sone_any g7 S7 (by omega)
      rw [HV7.out, oneI, if_pos HF.out] at hk
      refine (hk).mono ?_
      rintro e w4 ⟨rfl, hb⟩
      replace F1 := F1.below hb
      replace E1 := E1.below hb
      replace F2 := F2.below hb
      replace F3 := F3.below hb
      replace F5 := F5.below hb
      replace F6 := F6.below hb
      replace E91 := E91.below hb
      replace S7 := S7.below hb
      replace EW7 := EW7.below hb
      replace hB := hB.trans (hb.mono hB.size)
      have zz4 := hb.size
      have zh4 := hB.size
      clear hb
      clear hk
      obtain ⟨v, hv⟩ : ∃ v, wtQ s q = v := ⟨_, rfl⟩
      have hc := HC.out
      rw [hv] at hc ⊢
      have HVV := hide hv
      clear hv
      go_wp2
      go_ret2
      have hd : decide (v ≤ 16777215) = false := decide_eq_false (by omega)
      exact ⟨v, by rw [← hd]; rfl, hB⟩
set_option maxRecDepth 100000 in
set_option maxHeartbeats 4000000 in
theorem tsweigh_out (s : Int) (hs : -9223372036854775808 ≤ s ∧ s < 9223372036854775808) {a1 e1 : Option Addr} {c1 t1 : Nat} {x1 y1 : List Int} {w : World} (g1 : Bool) (F1 : Fr 0 w a1 c1 x1 e1 t1 y1) {q : Rat} (I1 : Is g1 x1 y1 q 24) (h : ¬ (-9223372036854775808 ≤ wtQ s q ∧ wtQ s q < 9223372036854775808)) :
    Calls Tryz.prog 40 #[.int .i64 s, .agg #[.bool g1, .slice a1 x1.length c1, .slice e1 y1.length t1]] w fun e w' => ∃ v, e = .returned (.tuple #[.int .i64 v, .bool false]) ∧ Below w.heap.size w w' := by
  have HN := hide h
  clear h
  have hB := Below.refl w.heap.size w
  go_enter Tryz.func40, Tryz.ntmps40
  have hs0 := Nat.le_refl w.heap.size
  have hq := below_new w (.cells #[.bool g1, .slice a1 x1.length c1, .slice e1 y1.length t1] 31)
  replace F1 := F1.below hq
  have E1 := Box.put (w := w) (k := (w.heap.size)) (.cells #[.bool g1, .slice a1 x1.length c1, .slice e1 y1.length t1] 31) rfl
  replace hs0 := Nat.le_trans hs0 hq.size
  replace hB := hB.trans (hq.mono hB.size)
  clear hq
  go_wp2_with fail
  obtain ⟨u1, hname⟩ := nm hB
  rw [hname] at hs0 hB F1 E1 ⊢
  have zh1 := hB.size
  have zs1 := hs0
  clear hname hs0
  replace F1 := F1.drew
  have qE1 := E1.lt
  replace E1 := E1.drew
  refine wp_yieldsZ 9 7 [.is (.int .i64 s), (Yield.frac u1.heap.size (Rat.divInt s 1) (1)), .is (.agg #[.bool g1, .slice a1 x1.length c1, .slice e1 y1.length t1]), (Yield.row 2 24 [Rat.divInt s 1, q]), (Yield.fracE u1.heap.size (Rat.divInt s 1 * q) (60)), (Yield.fracE u1.heap.size (Rat.divInt s 1 * q) (60)), (Yield.frac u1.heap.size (Rat.divInt s 1 * q) (60)), .is (.int .i64 0), (.new u1.heap.size (.cells #[.bool false, .slice none 0 0, .slice none 0 0] 31))] (.int .i64 0) rfl (by kernel_rfl) (by kernel_rfl) (lt_cons ?_ (lt_cons ?_ (lt_cons ?_ (lt_cons ?_ (lt_cons ?_ (lt_cons ?_ (lt_cons ?_ (lt_cons ?_ (lt_cons ?_ lt_nil))))))))) ?_
  case refine_1 =>
    refine OpDoes.mk rfl ?_
    intro vs V hV hd K hK
    simp only [laidIn, lz1, lz2, lz3, lz4, lz5, lz6, if_true, Act.put, lz7, lz8, lz9] at hK ⊢
    go_simp
    exact hK.out _ _ ((Below.refl _ _).a1 _) ⟨_, rfl, Box.new _ _, hV.size⟩ (fresh_apart _ _ (fresh_new _))
  case refine_2 =>
    refine OpDoes.mk rfl ?_
    intro vs V hV hd K hK
    have hh := fun (P : Prop) => Yield.fracE_elim P (show ((Yield.fracE u1.heap.size (Rat.divInt s 1 * q) (60)) : Yield).At (vs 5) V from hd 5 (by decide) (by kernel_rfl))
    refine hh _ ?_
    intro g5 a5 c5 x5 e5 t5 y5 d5 F5 P5 I5
    clear hh
    simp only [laidIn, lz1, lz2, lz3, lz4, lz5, lz6, if_true, Act.put, lz7, lz8, lz9] at hK ⊢
    simp only [d5] at hK ⊢
    go_simp
    exact hK.out _ _ (Below.refl _ _) rfl (not_fresh rfl)
  case refine_3 =>
    refine OpDoes.mk rfl ?_
    intro vs V hV hd K hK
    have hh := fun (P : Prop) => Yield.fracE_elim P (show ((Yield.fracE u1.heap.size (Rat.divInt s 1 * q) (60)) : Yield).At (vs 5) V from hd 5 (by decide) (by kernel_rfl))
    refine hh _ ?_
    intro g5 a5 c5 x5 e5 t5 y5 d5 F5 P5 I5
    clear hh
    simp only [laidIn, lz1, lz2, lz3, lz4, lz5, lz6, if_true, Act.put, lz7, lz8, lz9] at hK ⊢
    simp only [d5] at hK ⊢
    go_simp
    exact hK.out _ _ (Below.refl _ _) ⟨_, _, _, _, _, _, _, rfl, F5, P5, I5⟩ (not_fresh rfl)
  case refine_4 =>
    refine OpDoes.mk rfl ?_
    intro vs V hV hd K hK
    have hh := fun (P : Prop) => Yield.fracE_elim P (show ((Yield.fracE u1.heap.size (Rat.divInt s 1 * q) (60)) : Yield).At (vs 4) V from hd 4 (by decide) (by kernel_rfl))
    refine hh _ ?_
    intro g3 a3 c3 x3 e3 t3 y3 d4 F3 P3 I3
    clear hh
    simp only [laidIn, lz1, lz2, lz3, lz4, lz5, lz6, if_true, Act.put, lz7, lz8, lz9] at hK ⊢
    simp only [d4] at hK ⊢
    go_simp
    exact hK.out _ _ (Below.refl _ _) ⟨_, _, _, _, _, _, _, rfl, F3, P3, I3⟩ (not_fresh rfl)
  case refine_5 =>
    refine OpDoes.mk rfl ?_
    intro vs V hV hd K hK
    have hh := fun (P : Prop) => Yield.row_elim P (show ((Yield.row 2 24 [Rat.divInt s 1, q]) : Yield).At (vs 3) V from hd 3 (by decide) (by kernel_rfl))
    refine hh _ ?_
    intro k4 r4 d3 J4 R4 L4 G4 Q4
    clear hh
    simp only [laidIn, lz1, lz2, lz3, lz4, lz5, lz6, if_true, Act.put, lz7, lz8, lz9] at hK ⊢
    simp only [d3] at hK ⊢
    go_simp
    go_at_call 58
    refine (pmul_row J4 R4 L4 G4 Q4 (by omega) (by omega)).mono ?_
    rintro e V' ⟨g3, a3, c3, x3, e3, t3, y3, rfl, F3, P3, I3, hb⟩
    replace I3 : Is g3 x3 y3 (Rat.divInt s 1 * q) (60) := (I3.mono (by omega)).to (two_mul _ _)
    exact hK.out _ _ hb ⟨_, _, _, _, _, _, _, rfl, F3.mono hV.size, P3, I3⟩ (not_fresh rfl)
  case refine_6 =>
    refine OpDoes.mk rfl ?_
    intro vs V hV hd K hK
    have hh := fun (P : Prop) => Yield.frac_elim P (show ((Yield.frac u1.heap.size (Rat.divInt s 1) (1)) : Yield).At (vs 1) V from hd 1 (by decide) (by kernel_rfl))
    refine hh _ ?_
    intro g2 a2 c2 x2 e2 t2 y2 d1 F2 P2 I2
    clear hh
    have d2 : vs 2 = .agg #[.bool g1, .slice a1 x1.length c1, .slice e1 y1.length t1] := hd 2 (by decide) (by kernel_rfl)
    simp only [laidIn, lz1, lz2, lz3, lz4, lz5, lz6, if_true, Act.put, lz7, lz8, lz9] at hK ⊢
    simp only [d1, d2] at hK ⊢
    go_simp
    exact hK.out _ _ ((Below.refl _ _).a1 _) (Yield.row_two ⟨g2, a2, c2, x2, e2, t2, y2⟩ ⟨g1, a1, c1, x1, e1, t1, y1⟩ (F2.mono (Nat.zero_le _)) I2 ((F1.below hV).mono (Nat.zero_le _)) I1 (by omega) (by omega)) (not_fresh rfl)
  case refine_7 =>
    refine OpDoes.mk rfl ?_
    intro vs V hV hd K hK
    have hcc := (E1.below hV).three
    have k0 := hcc.1
    have k1 := hcc.2.1
    have k2 := hcc.2.2.1
    clear hcc
    simp only [laidIn, lz1, lz2, lz3, lz4, lz5, lz6, if_true, Act.put, lz7, lz8, lz9] at hK ⊢
    go_simp
    exact hK.out _ _ (Below.refl _ _) rfl (not_fresh rfl)
  case refine_8 =>
    refine OpDoes.mk rfl ?_
    intro vs V hV hd K hK
    have d0 : vs 0 = .int .i64 s := hd 0 (by decide) (by kernel_rfl)
    simp only [laidIn, lz1, lz2, lz3, lz4, lz5, lz6, if_true, Act.put, lz7, lz8, lz9] at hK ⊢
    simp only [d0] at hK ⊢
    go_simp
    go_at_call 43
    refine (tspart_any s 1 hs (by decide) (by decide) _).mono ?_
    rintro e V' ⟨g2, a2, c2, x2, e2, t2, y2, rfl, F2, P2, I2, hb⟩
    replace I2 : Is g2 x2 y2 (Rat.divInt s 1) (1) := I2.mono (by omega)
    exact hK.out _ _ hb ⟨_, _, _, _, _, _, _, rfl, F2.mono hV.size, P2, I2⟩ (not_fresh rfl)
  case refine_9 =>
    refine OpDoes.mk rfl ?_
    intro vs V hV hd K hK
    simp only [laidIn, lz1, lz2, lz4, lz5, lz6, if_true, Act.put, lz7, lz8, lz9] at hK ⊢
    go_simp
    exact hK.out _ _ (Below.refl _ _) rfl (not_fresh rfl)
  case refine_10 =>
    intro vs Y1 hV hR hne fuel
    have d0 : vs 0 = .int .i64 s := hR 0 (by decide)
    have hh := fun (P : Prop) => Yield.frac_elim P (show ((Yield.frac u1.heap.size (Rat.divInt s 1) (1)) : Yield).At (vs 1) Y1 from hR 1 (by decide))
    refine hh _ ?_
    intro g2 a2 c2 x2 e2 t2 y2 d1 F2 P2 I2
    clear hh
    have d2 : vs 2 = .agg #[.bool g1, .slice a1 x1.length c1, .slice e1 y1.length t1] := hR 2 (by decide)
    have hh := fun (P : Prop) => Yield.row_elim P (show ((Yield.row 2 24 [Rat.divInt s 1, q]) : Yield).At (vs 3) Y1 from hR 3 (by decide))
    refine hh _ ?_
    intro k4 r4 d3 J4 R4 L4 G4 Q4
    clear hh
    have hh := fun (P : Prop) => Yield.fracE_elim P (show ((Yield.fracE u1.heap.size (Rat.divInt s 1 * q) (60)) : Yield).At (vs 4) Y1 from hR 4 (by decide))
    refine hh _ ?_
    intro g3 a3 c3 x3 e3 t3 y3 d4 F3 P3 I3
    clear hh
    have hh := fun (P : Prop) => Yield.fracE_elim P (show ((Yield.fracE u1.heap.size (Rat.divInt s 1 * q) (60)) : Yield).At (vs 5) Y1 from hR 5 (by decide))
    refine hh _ ?_
    intro g5 a5 c5 x5 e5 t5 y5 d5 F5 P5 I5
    clear hh
    have hh := fun (P : Prop) => Yield.frac_elim P (show ((Yield.frac u1.heap.size (Rat.divInt s 1 * q) (60)) : Yield).At (vs 6) Y1 from hR 6 (by decide))
    refine hh _ ?_
    intro g6 a6 c6 x6 e6 t6 y6 d6 F6 P6 I6
    clear hh
    have d7 : vs 7 = .int .i64 0 := hR 7 (by decide)
    obtain ⟨k_E91, d8, E91, l_E91⟩ := (show ((.new u1.heap.size (.cells #[.bool false, .slice none 0 0, .slice none 0 0] 31)) : Yield).At (vs 8) Y1 from hR 8 (by decide))
    replace F1 := F1.below hV
    replace E1 := E1.below hV
    have hr := hV
    clear hR hne hV
    have hcc := E91.three
    have k0 := hcc.1
    have k1 := hcc.2.1
    have k2 := hcc.2.2.1
    have f0 := hcc.2.2.2.1
    have f1 := hcc.2.2.2.2.1
    have f2 := hcc.2.2.2.2.2
    clear hcc
    apply mp_of
    case f =>
      intro hgoal
      constructor
      · skip
        simp only [laidIn, lz4, lz5, lz6, if_true, Act.put, lz7, lz8, lz9]
        simp only [d0, d1, d2, d3, d4, d5, d6, d7, d8]
        show wpAny _ _ _ _ (fuel + 2) _ _ _
        refine wpAny_all (rs := [9]) (by kernel_rfl) (by simp) (fun i hi => ?_)
        obtain rfl : i = 9 := by simpa using hi
        clear hi
        refine wpOp_step rfl (fun K hK => ?_)
        simp only [lz1, lz2, lz3]
        rw [if_pos (by rfl)]
        go_simp
        refine hK _ _ ?_
        clear hK
        refine wpAny_all (rs := [10]) (by kernel_rfl) (by simp) (fun i hi => ?_)
        obtain rfl : i = 10 := by simpa using hi
        clear hi
        refine wpOp_step rfl (fun K hK => ?_)
        simp only [lz1, lz2, lz3]
        rw [if_pos (by rfl)]
        go_simp
        refine hK _ _ ?_
        clear hK
        refine wpAny_done (by kernel_rfl) ?_ _
        exact hgoal
      · skip
        simp only [laidIn, lz4, lz5, lz6, if_true, Act.put, lz7, lz8, lz9, Bool.false_eq_true, if_false, show ((0 : Nat) != 7) = true from rfl, show ((1 : Nat) != 7) = true from rfl, show ((2 : Nat) != 7) = true from rfl, show ((3 : Nat) != 7) = true from rfl, show ((4 : Nat) != 7) = true from rfl, show ((5 : Nat) != 7) = true from rfl, show ((6 : Nat) != 7) = true from rfl, show ((7 : Nat) != 7) = false from rfl, show ((8 : Nat) != 7) = true from rfl]
        simp only [d0, d1, d2, d3, d4, d5, d6, d8]
        show wpAny _ _ _ _ (fuel + 3) _ _ _
        refine wpAny_all (rs := [7, 9]) (by kernel_rfl) (by simp) (fun i hi => ?_)
        rcases (show i = 7 ∨ i = 9 by simpa using hi) with rfl | rfl
        · clear hi
          refine wpOp_step rfl (fun K hK => ?_)
          simp only [lz1, lz2, lz3]
          rw [if_pos (by rfl)]
          go_simp
          refine hK _ _ ?_
          clear hK
          refine wpAny_all (rs := [9]) (by kernel_rfl) (by simp) (fun i hi => ?_)
          obtain rfl : i = 9 := by simpa using hi
          clear hi
          refine wpOp_step rfl (fun K hK => ?_)
          simp only [lz1, lz2, lz3]
          rw [if_pos (by rfl)]
          go_simp
          refine hK _ _ ?_
          clear hK
          refine wpAny_all (rs := [10]) (by kernel_rfl) (by simp) (fun i hi => ?_)
          obtain rfl : i = 10 := by simpa using hi
          clear hi
          refine wpOp_step rfl (fun K hK => ?_)
          simp only [lz1, lz2, lz3]
          rw [if_pos (by rfl)]
          go_simp
          refine hK _ _ ?_
          clear hK
          refine wpAny_done (by kernel_rfl) ?_ _
          exact hgoal
        · clear hi
          refine wpOp_step rfl (fun K hK => ?_)
          simp only [lz1, lz2, lz3]
          rw [if_pos (by rfl)]
          go_simp
          refine hK _ _ ?_
          clear hK
          refine wpAny_all (rs := [7]) (by kernel_rfl) (by simp) (fun i hi => ?_)
          obtain rfl : i = 7 := by simpa using hi
          clear hi
          refine wpOp_step rfl (fun K hK => ?_)
          simp only [lz1, lz2, lz3]
          rw [if_pos (by rfl)]
          go_simp
          refine hK _ _ ?_
          clear hK
          refine wpAny_all (rs := [10]) (by kernel_rfl) (by simp) (fun i hi => ?_)
          obtain rfl : i = 10 := by simpa using hi
          clear hi
          refine wpOp_step rfl (fun K hK => ?_)
          simp only [lz1, lz2, lz3]
          rw [if_pos (by rfl)]
          go_simp
          refine hK _ _ ?_
          clear hK
          refine wpAny_done (by kernel_rfl) ?_ _
          exact hgoal
    case p =>
      clear k0 f0 k1 f1 k2 f2
      have hT := turns3 (k_E91) Y1 (.bool g6) (.slice a6 x6.length c6) (.slice e6 y6.length t6)
      replace F1 := F1.beside E91 (noWord3 (fun _ e => by cases e) (fun _ e => by cases e) (fun _ e => by cases e)) hT
      replace E1 := E1.turns hT (by omega)
      replace F2 := F2.beside E91 (noWord3 (fun _ e => by cases e) (fun _ e => by cases e) (fun _ e => by cases e)) hT
      replace F3 := F3.beside E91 (noWord3 (fun _ e => by cases e) (fun _ e => by cases e) (fun _ e => by cases e)) hT
      replace F5 := F5.beside E91 (noWord3 (fun _ e => by cases e) (fun _ e => by cases e) (fun _ e => by cases e)) hT
      replace F6 := F6.beside E91 (noWord3 (fun _ e => by cases e) (fun _ e => by cases e) (fun _ e => by cases e)) hT
      replace E91 := Box.set3 (.bool g6) (.slice a6 x6.length c6) (.slice e6 y6.length t6) E91
      have hr9 := hT.below
      obtain ⟨X1, hX⟩ := nm hT.below
      rw [hX] at F1 E1 F2 F3 F5 F6 E91 hr9 ⊢
      clear hX hT
      replace hB := hB.trans ((Below.trans (Below.drew (Below.refl u1.heap.size u1)) hr).mono hB.size)
      replace hB := hB.trans (hr9.mono (by omega))
      have zz1_1 := hr.size
      have zi1 := hB.size
      have zy1_9 := hr9.size
      clear hr hr9
      clear d0 d1 d2 d3 d4 d5 d6 d7 d8
      clear vs
      obtain ⟨k0, k1, k2, f0, f1, f2⟩ := E91.three
      go_wp2_with fail
      clear k0 k1 k2 f0 f1 f2
      refine (pround_ok g6 F6 I6 (by omega)).mono ?_
      rintro e w2 ⟨g7, a7, c7, z7, rfl, S7, N7, V7, b7, hb⟩
      have HV7 : Hid (sgn g7 (val z7) = wtQ s q) := V7.out.trans (I6.rnd F6.up.words)
      replace F1 := F1.below hb
      replace E1 := E1.below hb
      replace F2 := F2.below hb
      replace F3 := F3.below hb
      replace F5 := F5.below hb
      replace F6 := F6.below hb
      replace E91 := E91.below hb
      replace hB := hB.trans (hb.mono hB.size)
      have zz2 := hb.size
      have zh2 := hB.size
      clear hb
      have qE1 := E1.lt
      have qE91 := E91.lt
      have hs0 := Nat.le_refl w2.heap.size
      have hq := below_new w2 (.cells #[.bool g7, .slice a7 z7.length c7] 29)
      replace F1 := F1.below hq
      replace E1 := E1.below hq
      replace F2 := F2.below hq
      replace F3 := F3.below hq
      replace F5 := F5.below hq
      replace F6 := F6.below hq
      replace E91 := E91.below hq
      replace S7 := S7.below hq
      have EW7 := Box.put (w := w2) (k := (w2.heap.size)) (.cells #[.bool g7, .slice a7 z7.length c7] 29) rfl
      replace hs0 := Nat.le_trans hs0 hq.size
      replace hB := hB.trans (hq.mono hB.size)
      clear hq
      go_wp2_with fail
      obtain ⟨u3, hname⟩ := nm hB
      rw [hname] at hs0 hB F1 E1 F2 F3 F5 F6 E91 S7 EW7 ⊢
      have zh3 := hB.size
      have zs3 := hs0
      clear hname hs0
      have hk := sone_any g7 S7 (by omega)
      rw [HV7.out, oneI, if_neg HN.out] at hk
      refine (hk).mono ?_
      rintro e w4 ⟨rfl, hb⟩
      replace F1 := F1.below hb
      replace E1 := E1.below hb
      replace F2 := F2.below hb
      replace F3 := F3.below hb
      replace F5 := F5.below hb
      replace F6 := F6.below hb
      replace E91 := E91.below hb
      replace S7 := S7.below hb
      replace EW7 := EW7.below hb
      replace hB := hB.trans (hb.mono hB.size)
      have zz4 := hb.size
      have zh4 := hB.size
      clear hb
      clear hk
      go_wp2
      go_ret2
      exact ⟨_, rfl, hB⟩
theorem tsweigh_no (s : Int) (hs : -9223372036854775808 ≤ s ∧ s < 9223372036854775808) {a1 e1 : Option Addr} {c1 t1 : Nat} {x1 y1 : List Int} {w : World} (g1 : Bool) (F1 : Fr 0 w a1 c1 x1 e1 t1 y1) {q : Rat} (I1 : Is g1 x1 y1 q 24) (h : ¬ (-9223372036854775808 ≤ wtQ s q ∧ wtQ s q ≤ 16777215)) :
    Calls Tryz.prog 40 #[.int .i64 s, .agg #[.bool g1, .slice a1 x1.length c1, .slice e1 y1.length t1]] w fun e w' => ∃ v, e = .returned (.tuple #[.int .i64 v, .bool false]) ∧ Below w.heap.size w w' := by
  by_cases h1 : -9223372036854775808 ≤ wtQ s q ∧ wtQ s q < 9223372036854775808
  · exact tsweigh_big s hs g1 F1 I1 h1 (by omega)
  · exact tsweigh_out s hs g1 F1 I1 h1
def FaSaid (q : Rat) (n : Nat) (w : World) (e : Ending) (w' : World) : Prop := ∃ (b' : Bool) (a' : Option Addr) (ca' : Nat) (ts' : List Int) (c' : Option Addr) (cc' : Nat) (es' : List Int), e = .returned (.agg #[.bool b', .slice a' ts'.length ca', .slice c' es'.length cc']) ∧ Fr w.heap.size w' a' ca' ts' c' cc' es' ∧ Apart a' c' ts' es' ∧ Is b' ts' es' (q) (n) ∧ Below w.heap.size w w'
def TblSaid (p : List Int × Int) (w : World) (e : Ending) (w' : World) : Prop := ∃ (a : Option Addr) (n c : Nat), e = .returned (.tuple #[.slice a n c, .int .i64 p.2]) ∧ Intz w.heap.size w' (.slice a n c) p.1 ∧ Below w.heap.size w w'
theorem wts_take (s : Int) (f : Int → Rat) {i k : Nat} (h : i < k) : wtQ s (f ((i : Int) + 1)) ∈ wts s f k := by
  have h1 := wts_get s f h
  have h2 : i < (wts s f k).length := by rw [wts_len]; exact h
  rw [List.getElem?_eq_getElem h2] at h1
  rw [← h1]
  exact List.getElem_mem h2
theorem wts_in {s : Int} {f : Int → Rat} {k : Nat} {P : Int → Prop} (h : ∀ j : Nat, j < k → P (wtQ s (f ((j : Int) + 1)))) : ∀ z ∈ wts s f k, P z := fun z hz => by
  obtain ⟨j, hj, rfl⟩ := wts_mem s f hz
  exact h j hj
set_option maxRecDepth 100000 in
set_option maxHeartbeats 1000000 in
theorem fill_any (k : Nat) (hk : 1 ≤ k ∧ k ≤ 65536) (s : Int) (hs : 1 ≤ s ∧ s ≤ 16777215) (f : Int → Rat) {sv : Option Addr} {n c : Nat} {w : World}
    (hT : ∀ (W : World), Below w.heap.size w W → ∀ d : Int, 1 ≤ d ∧ d ≤ k → Calls Tryz.prog 41 #[.int .i64 d, .slice sv n c] W fun e W' => FaSaid (f d) 24 W e W')
    (hf : ∀ j : Nat, j < k → 0 ≤ wtQ s (f ((j : Int) + 1))) :
    Calls Tryz.prog 24 #[.int .i64 (k : Int), .int .i64 s, .slice sv n c] w fun e w' => TblSaid (tblS (wts s f k)) w e w' := by
  obtain ⟨Z, hmk, hmz⟩ := intz_make k (by omega)
  have hq0 := below_new w Z
  have HZ := hide (hmz w)
  have HT := hide hT
  have HF := hide hf
  have HQ := hide hq0
  have hsz : Hid ((w.alloc Z).heap.size = w.heap.size + 1) := by rw [Hid]; simp
  have hc := tsadder_any (w.alloc Z)
  rw [hsz.out] at hc
  clear hmz hT hf hq0
  go_enter Tryz.func24, Tryz.ntmps24
  go_wp2_with fail
  refine hc.mono ?_
  rintro e w1 ⟨rfl, E1, b1⟩
  have HE1 := hide E1
  have HB1 := hide (HQ.out.trans ((hsz.out ▸ b1 : Below (w.heap.size + 1) (w.alloc Z) w1).mono (by omega)))
  have HZ1 := hide (HZ.out.below (by rw [hsz.out]; exact b1))
  clear hc E1 b1 HZ
  go_wp2
  go_loopw [17] (fun iv wr => ∃ (i : Nat), i ≤ k ∧ iv = .int .i64 i ∧ Hid (Intz w.heap.size wr (.slice (some ⟨w.heap.size, 0, none⟩) k k) (wts s f i ++ List.replicate (k - i) 0)) ∧ Hid (Box wr (w.heap.size + 1) (.cells #[.int .i64 (totT (wts s f i))] 3)) ∧ Hid (Below w.heap.size w wr) ∧ Hid (∀ j : Nat, j < i → wtQ s (f ((j : Int) + 1)) ≤ 16777215)) (fun iv _ => k - (intOf iv).toNat)
  case atStart => exact ⟨0, Nat.zero_le _, rfl, HZ1.out, HE1.out, HB1.out, fun j hj => absurd hj (Nat.not_lt_zero j)⟩
  case round =>
    clear HZ1 HE1 HB1 HQ
    obtain ⟨i, hi, rfl, HZ, HE, HB, HL⟩ := hrel
    by_cases hik : i < k
    · have hki : (i : Int) < (k : Int) := by omega
      have hw1 : IntKind.i64.wrap ((i : Int) + 1) = (i : Int) + 1 := by rw [IntKind.wrap_i64]; omega
      have hc := HT.out wr HB.out ((i : Int) + 1) (by omega)
      go_wp2_with fail
      refine hc.mono ?_
      rintro e w2 ⟨b1, a1, c1, x1, e1, t1, y1, rfl, F1, _, I1, hb⟩
      have HZ2 := hide (HZ.out.below hb)
      have HE2 := hide (HE.out.below hb)
      have HB2 := hide (HB.out.trans (hb.mono HB.out.size))
      clear hc HZ HE HB hb
      by_cases hfit : wtQ s (f ((i : Int) + 1)) ≤ 16777215
      · have hv0 := HF.out i hik
        have hc := tsweigh_in s (by omega) b1 (F1.mono (Nat.zero_le _)) I1 ⟨by omega, hfit⟩
        clear F1 I1
        have HS : Hid (wts s f (i + 1) = wts s f i ++ [wtQ s (f ((i : Int) + 1))]) := rfl
        have HL2 : Hid (∀ j : Nat, j < i + 1 → wtQ s (f ((j : Int) + 1)) ≤ 16777215) := fun j hj => by
          by_cases e : j = i
          · subst e; exact hfit
          · exact HL.out j (by omega)
        obtain ⟨v, hv⟩ : ∃ v, wtQ s (f ((i : Int) + 1)) = v := ⟨_, rfl⟩
        rw [hv] at hc hv0 HS hfit
        clear hv HL
        go_wp2_with fail
        refine hc.mono ?_
        rintro e w3 ⟨rfl, hb⟩
        have HZ3 := hide (HZ2.out.below hb)
        have HE3 := hide (HE2.out.below hb)
        have HB3 := hide (HB2.out.trans (hb.mono HB2.out.size))
        clear hc HZ2 HE2 HB2 hb
        have hcell := HZ3.out.cell (j := i) hik
        rw [Nat.zero_add] at hcell
        have hc1 := hcell.1
        have hc2 := hcell.2
        clear hcell
        have HT1 := hide ((Turns.refl w.heap.size w3).setCell i (.int .i64 v))
        have HE4 := hide (HE3.out.turns HT1.out (by omega))
        have hz4 := HZ3.out.set (k := i) (x := v) (by rw [List.length_append, wts_len, List.length_replicate]; omega) (by omega)
        rw [set_zeros (wts_len s f i) hik, ← HS.out, Nat.zero_add] at hz4
        have HZ4 := hide hz4
        have HB4 := hide (HB3.out.trans HT1.out.below)
        have hc := tsadder1_any v (totT (wts s f i)) (w.heap.size + 1) _ HE4.out
        clear HZ3 HE3 HB3 HE4 hz4 HT1
        rw [← totT_snoc, ← HS.out] at hc
        generalize (wts s f i ++ List.replicate (k - i) 0)[i]?.getD 0 = old at *
        go_wp2_with fail
        refine hc.mono ?_
        rintro e w5 ⟨rfl, hw5, E5⟩
        have ht := (Turns.refl (w.heap.size + 1) (w3.setCell ⟨w.heap.size, i, none⟩ (.int .i64 v))).setCell 0 (.int .i64 (totT (wts s f (i + 1))))
        rw [← hw5] at ht
        have HZ5 := hide (HZ4.out.turns ht (by omega))
        have HB5 := hide (HB4.out.trans (ht.below.mono (by omega)))
        have HE5 := hide E5
        clear hc hw5 E5 ht HZ4 HB4 hc1 hc2
        go_wp2
        exact ⟨⟨i + 1, by omega, by go_num, HZ5.out, HE5.out, HB5.out, HL2.out⟩, by simp [intOf]; omega⟩
      · have hc := tsweigh_no (w := w2) s (by omega) b1 (F1.mono (Nat.zero_le _)) I1 (fun h => hfit h.2)
        clear F1 I1
        have HT0 : Hid (tblS (wts s f k) = ([], 13)) := tblS_big ⟨_, wts_take s f hik, by omega⟩
        clear hfit
        go_wp2_with fail
        refine hc.mono ?_
        rintro e w3 ⟨v, rfl, hb⟩
        have HB3 := hide (HB2.out.trans (hb.mono HB2.out.size))
        clear hc hb
        go_wp2
        go_ret2
        rw [HT0.out]
        exact ⟨none, 0, 0, rfl, Intz.nil _ _, HB3.out⟩
    · obtain rfl : i = k := by omega
      have hc := tsadder1_any 0 (totT (wts s f i)) (w.heap.size + 1) _ HE.out
      have hz := HZ.out
      rw [Nat.sub_self, List.replicate_zero, List.append_nil] at hz
      have hall : ∀ z ∈ wts s f i, 0 ≤ z ∧ z ≤ 16777215 := wts_in (P := fun z => 0 ≤ z ∧ z ≤ 16777215) (fun j hj => ⟨HF.out j hj, HL.out j hj⟩)
      have hts := tblS_sum hall (by rw [wts_len]; omega)
      have hbd := sumI_bound hall
      rw [wts_len, ← totT_sum hall (by rw [wts_len]; omega)] at hbd
      have hwr : wrap64 (totT (wts s f i) + 0) = totT (wts s f i) := by unfold wrap64; omega
      rw [hwr] at hc
      have HZ2 := hide hz
      have HTS := hide hts
      clear hz hall hts hbd hwr HZ
      obtain ⟨t, ht⟩ : ∃ t, totT (wts s f i) = t := ⟨_, rfl⟩
      rw [ht] at hc HTS
      clear ht HE
      go_wp2_with fail
      refine hc.mono ?_
      rintro e w5 ⟨rfl, hw5, E5⟩
      have ht := (Turns.refl (w.heap.size + 1) wr).setCell 0 (.int .i64 t)
      rw [← hw5] at ht
      have HZ5 := hide (HZ2.out.turns ht (by omega))
      have HB5 := hide (HB.out.trans (ht.below.mono (by omega)))
      clear hc hw5 E5 ht HZ2 HB
      by_cases h0 : t = 0
      · have HT0 := hide (HTS.out.1 h0)
        subst h0
        go_wp2
        go_ret2
        rw [HT0.out]
        exact ⟨none, 0, 0, rfl, Intz.nil _ _, HB5.out⟩
      · have HT0 := hide (HTS.out.2 h0)
        have hne : (t == 0) = false := beq_eq_false_iff_ne.2 h0
        go_wp2
        go_ret2
        rw [HT0.out]
        exact ⟨_, _, _, rfl, HZ5.out, HB5.out⟩
end Go.Proofs.YtejocefblpkdjabGreat
namespace Go.Proofs.YtejocefblpkdjabGreat
open Go.RowKit
end Go.Proofs.YtejocefblpkdjabGreat
namespace Go.Proofs.YtejocefblpkdjabGreat
open Go.RowKit
def wsum (zs : List Int) : Nat → Int
  | 0 => 0
  | i + 1 => wrap64 (wsum zs i + wrap64 (zs[i]?.getD 0 * ((i : Int) + 1)))
theorem wrap64_rng (x : Int) : -9223372036854775808 ≤ wrap64 x ∧ wrap64 x < 9223372036854775808 := by unfold wrap64; omega
theorem wrap64_zero (x : Int) : wrap64 (wrap64 x + 0) = wrap64 x := by unfold wrap64; omega
theorem wsum_rng (zs : List Int) : ∀ i, -9223372036854775808 ≤ wsum zs i ∧ wsum zs i < 9223372036854775808
  | 0 => by simp [wsum]
  | i + 1 => wrap64_rng _
theorem wsum_add (zs : List Int) : ∀ i, wrap64 (wsum zs i + 0) = wsum zs i
  | 0 => by simp [wsum, wrap64]
  | i + 1 => wrap64_zero _
theorem tot_pos {zs : List Int} {k : Int} (h : MayT zs k) : 0 < totT zs ∧ totT zs < 9223372036854775808 := by
  obtain ⟨_, h2, _, h4, h5, z, hz, h6⟩ := h
  have hb := sumI_bound h5
  have h0 := sumI_zero (fun z hz => (h5 z hz).1)
  rw [totT_sum h5 (by omega)]
  have : sumI zs ≠ 0 := fun e => by have := h0.1 e z hz; omega
  omega
def MeanSaid (zs : List Int) (w : World) (e : Ending) (w' : World) : Prop :=
  (¬ chkT zs 65536 = 0 → e = .returned (.tuple #[.agg #[.bool false, .slice none 0 0, .slice none 0 0], .int .i64 13]) ∧ Below w.heap.size w w') ∧ (chkT zs 65536 = 0 → ∃ (b' : Bool) (a' : Option Addr) (ca' : Nat) (ts' : List Int) (c' : Option Addr) (cc' : Nat) (es' : List Int), e = .returned (.tuple #[.agg #[.bool b', .slice a' ts'.length ca', .slice c' es'.length cc'], .int .i64 0]) ∧ Fr w.heap.size w' a' ca' ts' c' cc' es' ∧ Apart a' c' ts' es' ∧ Is b' ts' es' (Rat.divInt (wsum zs zs.length) (totT zs)) (1) ∧ Below w.heap.size w w')
set_option maxRecDepth 100000 in
set_option maxHeartbeats 1000000 in
theorem tsmean_no {lo : Nat} {a : Option Addr} {n c : Nat} {zs : List Int} {w : World} (X : Intz lo w (.slice a n c) zs) (h : ¬ chkT zs 65536 = 0) :
    Calls Tryz.prog 6 #[.slice a n c] w fun e w' => e = .returned (.tuple #[.agg #[.bool false, .slice none 0 0, .slice none 0 0], .int .i64 13]) ∧ Below w.heap.size w w' := by
  have h0 := below_new w (.cells #[.bool false, .slice none 0 0, .slice none 0 0] 31)
  have E0 := Box.new w (.cells #[.bool false, .slice none 0 0, .slice none 0 0] 31)
  have hc := tscheck_any (X.below h0) 65536
  have hx : chkT zs 65536 = 13 := by
    unfold chkT at h ⊢
    split
    · rename_i g
      rw [if_pos g] at h
      exact absurd rfl h
    · rfl
  rw [hx] at hc
  have HE := hide E0
  have H0 := hide h0
  clear X h hx E0 h0
  go_enter Tryz.func6, Tryz.ntmps6
  go_wp2_with fail
  refine hc.mono ?_
  rintro e w1 ⟨rfl, b1⟩
  have E1 := HE.out.below b1
  obtain ⟨r0, r1, r2, f0, f1, f2⟩ := E1.three
  have hT := turns3 w.heap.size w1 (.bool false) (.slice none 0 0) (.slice none 0 0)
  have HB := hide ((H0.out.trans (b1.mono H0.out.size)).trans hT.below)
  clear hc b1 E1 hT
  go_wp2
  refine bodyPost_ret (v := .tuple #[.agg #[.bool false, .slice none 0 0, .slice none 0 0], .int .i64 13]) (by simp [results, Tryz.f6, go_sem, r0, r1, r2]) rfl ?_
  exact ⟨rfl, HB.out⟩
set_option maxRecDepth 100000 in
set_option maxHeartbeats 1000000 in
theorem tsmean_yes {lo : Nat} {a : Option Addr} {n c : Nat} {zs : List Int} {w : World} (X : Intz lo w (.slice a n c) zs) (h : chkT zs 65536 = 0) :
    Calls Tryz.prog 6 #[.slice a n c] w fun e w' => ∃ (b' : Bool) (a' : Option Addr) (ca' : Nat) (ts' : List Int) (c' : Option Addr) (cc' : Nat) (es' : List Int), e = .returned (.tuple #[.agg #[.bool b', .slice a' ts'.length ca', .slice c' es'.length cc'], .int .i64 0]) ∧ Fr w.heap.size w' a' ca' ts' c' cc' es' ∧ Apart a' c' ts' es' ∧ Is b' ts' es' (Rat.divInt (wsum zs zs.length) (totT zs)) (1) ∧ Below w.heap.size w w' := by
  have hn := X.len.1
  have hm := chkT_iff.1 h
  have hln : Hid (n ≤ 65536) := by
    have := hm.2.2.2.1
    rw [Hid]; omega
  have hp := tot_pos hm
  have h0 := below_new w (.cells #[.bool false, .slice none 0 0, .slice none 0 0] 31)
  have E0 := Box.new w (.cells #[.bool false, .slice none 0 0, .slice none 0 0] 31)
  have hz : Hid ((w.alloc (.cells #[.bool false, .slice none 0 0, .slice none 0 0] 31)).heap.size = w.heap.size + 1) := by rw [Hid]; simp
  have HX := hide (X.below h0)
  have hc := tscheck_any HX.out 65536
  rw [h] at hc
  have HW : Hid (∀ i, wsum zs (i + 1) = wrap64 (wsum zs i + wrap64 (zs[i]?.getD 0 * ((i : Int) + 1)))) := fun _ => rfl
  have HN : Hid (zs.length = n) := hn.symm
  have HPR := hide (fun W : World => ppair_pos (wsum zs n) (totT zs) (wsum_rng zs n) ⟨by omega, hp.2⟩ hp.1 W)
  have HE := hide E0
  have H0 := hide h0
  clear X h hm hn hp E0 h0
  go_enter Tryz.func6, Tryz.ntmps6
  go_wp2_with fail
  refine hc.mono ?_
  rintro e w1 ⟨rfl, b1⟩
  have H1 := hide b1
  have hc := tsadder_any w1
  clear b1
  go_wp2_with fail
  refine hc.mono ?_
  rintro e w2 ⟨rfl, E2, b2⟩
  obtain ⟨G, hG⟩ : ∃ G, w1.heap.size = G := ⟨_, rfl⟩
  rw [hG] at E2 ⊢
  have hGz : w.heap.size + 1 ≤ G := by have := H1.out.size; rw [hz.out] at this; omega
  have HE2 := hide E2
  have HB2 : Hid (Below G w1 w2) := hG ▸ b2
  clear hc E2 b2 hG
  go_wp2
  go_loopw [14] (fun iv wr => ∃ (i : Nat), i ≤ n ∧ iv = .int .i64 i ∧ Hid (Box wr G (.cells #[.int .i64 (wsum zs i)] 3)) ∧ Hid (Below G w1 wr)) (fun iv _ => n - (intOf iv).toNat)
  case atStart => exact ⟨0, Nat.zero_le _, rfl, HE2.out, HB2.out⟩
  case round =>
    clear HE2 HB2
    obtain ⟨i, hi, rfl, HE3, HB⟩ := hrel
    have hbB : Hid (Below (w.alloc (.cells #[.bool false, .slice none 0 0, .slice none 0 0] 31)).heap.size (w.alloc (.cells #[.bool false, .slice none 0 0, .slice none 0 0] 31)) wr) := H1.out.trans (HB.out.mono (by rw [hz.out]; exact hGz))
    by_cases hik : i < n
    · have hki : (i : Int) < (n : Int) := by omega
      obtain ⟨b, o, rfl, _, _⟩ := HX.out.row (by omega)
      have hc1 := ((HX.out.below hbB.out).cell (j := i) hik).1
      have hc := tsadder1_any (wrap64 (zs[i]?.getD 0 * ((i : Int) + 1))) (wsum zs i) G wr HE3.out
      rw [← HW.out i] at hc
      have hln2 := hln.out
      have hw1 : IntKind.i64.wrap ((i : Int) + 1) = (i : Int) + 1 := by rw [IntKind.wrap_i64]; omega
      generalize zs[i]?.getD 0 = x at *
      go_wp2_with fail
      refine hc.mono ?_
      rintro e w5 ⟨rfl, hw5, E5⟩
      have ht := (Turns.refl G wr).setCell 0 (.int .i64 (wsum zs (i + 1)))
      rw [← hw5] at ht
      have HB5 := hide (HB.out.trans ht.below)
      have HE5 := hide E5
      clear hc hw5 E5 ht hc1 HB HE3 hbB
      go_wp2
      exact ⟨⟨i + 1, by omega, by go_num, HE5.out, HB5.out⟩, by simp [intOf]; omega⟩
    · obtain rfl : i = n := by omega
      have hc := tsadder1_any 0 (wsum zs i) G wr HE3.out
      rw [wsum_add] at hc
      go_wp2_with fail
      refine hc.mono ?_
      rintro e w5 ⟨rfl, hw5, E5⟩
      have ht := (Turns.refl G wr).setCell 0 (.int .i64 (wsum zs i))
      rw [← hw5] at ht
      have HB5 := hide (hbB.out.trans (ht.below.mono (by rw [hz.out]; exact hGz)))
      clear hc hw5 E5 ht HB HE3 hbB
      have hc := tstotal_any (HX.out.below HB5.out) (by have := hln.out; omega)
      go_wp2_with fail
      refine hc.mono ?_
      rintro e w6 ⟨rfl, b6⟩
      have HB6 := hide (HB5.out.trans (b6.mono HB5.out.size))
      clear hc b6 HB5
      have hc := HPR.out w6
      go_wp2_with fail
      refine hc.mono ?_
      rintro e w7 ⟨g1, a1, c1, x1, e1, t1, y1, rfl, F1, P1, I1, hb⟩
      have HB7 := hide (HB6.out.trans (hb.mono HB6.out.size))
      have E7 := HE.out.below HB7.out
      have hs6 := HB6.out.size
      rw [hz.out] at hs6
      obtain ⟨r0, r1, r2, f0, f1, f2⟩ := E7.three
      have hT := turns3 w.heap.size w7 (.bool g1) (.slice a1 x1.length c1) (.slice e1 y1.length t1)
      have hF : Fr w.heap.size (((w7.setCell ⟨w.heap.size, 0, none⟩ (.bool g1)).setCell ⟨w.heap.size, 1, none⟩ (.slice a1 x1.length c1)).setCell ⟨w.heap.size, 2, none⟩ (.slice e1 y1.length t1)) a1 c1 x1 e1 t1 y1 := ⟨(F1.up.turns_lo hT (by omega)).mono (by omega), (F1.down.turns_lo hT (by omega)).mono (by omega)⟩
      have HF := hide hF
      have HBB := hide ((H0.out.trans (HB7.out.mono (by rw [hz.out]; omega))).trans hT.below)
      clear hc hb E7 hs6 hT hF F1
      go_wp2
      refine bodyPost_ret (v := .tuple #[.agg #[.bool g1, .slice a1 x1.length c1, .slice e1 y1.length t1], .int .i64 0]) (by simp [results, Tryz.f6, go_sem, r0, r1, r2]) rfl ?_
      rw [HN.out]
      exact ⟨_, _, _, _, _, _, _, rfl, HF.out, P1, I1, HBB.out⟩
theorem tsmean_any {lo : Nat} {a : Option Addr} {n c : Nat} {zs : List Int} {w : World} (X : Intz lo w (.slice a n c) zs) :
    Calls Tryz.prog 6 #[.slice a n c] w fun e w' => MeanSaid zs w e w' := by
  by_cases h : chkT zs 65536 = 0
  · exact (tsmean_yes X h).mono fun e w' h' => ⟨fun h2 => absurd h h2, fun _ => h'⟩
  · exact (tsmean_no X h).mono fun e w' h' => ⟨fun _ => h', fun h2 => absurd h2 h⟩
end Go.Proofs.YtejocefblpkdjabGreat
namespace Go.Proofs.YtejocefblpkdjabGreat
open Go.RowKit
end Go.Proofs.YtejocefblpkdjabGreat
namespace Go.Proofs.YtejocefblpkdjabGreat
open Go.RowKit
set_option maxRecDepth 100000 in
set_option maxHeartbeats 1000000 in
theorem tsmayFill_any (k s : Int) (w : World) :
    Calls Tryz.prog 23 #[.int .i64 k, .int .i64 s] w fun e w' => e = .returned (.bool (decide ((1 ≤ k ∧ k ≤ 65536) ∧ 1 ≤ s ∧ s ≤ 16777215))) ∧ Below w.heap.size w w' := by
  have hc := tswithin_any k 1 65536 w
  by_cases h1 : 1 ≤ k ∧ k ≤ 65536
  · rw [decide_eq_true h1] at hc
    have hc2 := fun w => tswithin_any s 1 16777215 w
    obtain ⟨r, hr⟩ : ∃ r, decide (1 ≤ s ∧ s ≤ 16777215) = r := ⟨_, rfl⟩
    have he : decide ((1 ≤ k ∧ k ≤ 65536) ∧ 1 ≤ s ∧ s ≤ 16777215) = r := by rw [← hr]; simp [h1]
    rw [he]
    rw [hr] at hc2
    have HC := hide hc2
    clear hr he hc2
    go_enter Tryz.func23, Tryz.ntmps23
    go_wp2_with fail
    refine hc.mono ?_
    rintro e w1 ⟨rfl, b1⟩
    have HB1 := hide b1
    have hc := HC.out w1
    clear b1 h1
    go_wp2_with fail
    refine hc.mono ?_
    rintro e w2 ⟨rfl, b2⟩
    have HB2 := hide (HB1.out.trans (b2.mono HB1.out.size))
    clear hc b2
    go_wp2
    go_ret
    exact ⟨rfl, HB2.out⟩
  · rw [decide_eq_false h1] at hc
    have he : decide ((1 ≤ k ∧ k ≤ 65536) ∧ 1 ≤ s ∧ s ≤ 16777215) = false := decide_eq_false (fun h => h1 h.1)
    rw [he]
    clear he h1
    go_enter Tryz.func23, Tryz.ntmps23
    go_wp2_with fail
    refine hc.mono ?_
    rintro e w1 ⟨rfl, b1⟩
    have HB1 := hide b1
    clear hc b1
    go_wp2
    go_ret
    exact ⟨rfl, HB1.out⟩
set_option maxRecDepth 100000 in
set_option maxHeartbeats 1000000 in
theorem tsIdeal_no (k s : Int) (h : ¬ ((1 ≤ k ∧ k ≤ 65536) ∧ 1 ≤ s ∧ s ≤ 16777215)) (w : World) :
    Calls Tryz.prog 11 #[.int .i64 k, .int .i64 s] w fun e w' => TblSaid (idealS k s) w e w' := by
  have hc := tsmayFill_any k s w
  rw [decide_eq_false h] at hc
  have hi : idealS k s = ([], 3) := if_neg h
  rw [hi]
  clear hi h
  go_enter Tryz.func11, Tryz.ntmps11
  go_wp2_with fail
  refine hc.mono ?_
  rintro e w1 ⟨rfl, b1⟩
  have HB1 := hide b1
  clear hc b1
  go_wp2
  go_ret2
  exact ⟨none, 0, 0, rfl, Intz.nil _ _, HB1.out⟩
theorem fill_one (k : Nat) (s : Int) (hk : 1 ≤ k ∧ k ≤ 65536) (hs : 1 ≤ s ∧ s ≤ 16777215) {S K : Nat} {w : World} (EK : Box w K (.cells #[.int .i64 (k : Int)] 3)) (ES : Box w S (.cells #[.func (.func 42) #[] #[.pointer (some ⟨K, 0, none⟩)]] 57)) :
    Calls Tryz.prog 24 #[.int .i64 (k : Int), .int .i64 s, .slice (some ⟨S, 0, none⟩) 1 1] w fun e w' => TblSaid (tblS (wts s (idQ k) k)) w e w' :=
  fill_any k hk s hs (idQ k) (fun W hb d hd => (tog_one d k (by omega) (by omega) (EK.below hb) (ES.below hb)).mono fun _ _ ⟨g, a, c, x, e, t, y, he, F, P, I, B⟩ => ⟨g, a, c, x, e, t, y, he, F, P, I.mono (by omega), B⟩) (fun j _ => id_nonneg (by omega) hs.1 j)
set_option maxRecDepth 100000 in
set_option maxHeartbeats 1000000 in
theorem tsIdeal_yes (k : Nat) (s : Int) (hk : 1 ≤ k ∧ k ≤ 65536) (hs : 1 ≤ s ∧ s ≤ 16777215) (w : World) :
    Calls Tryz.prog 11 #[.int .i64 (k : Int), .int .i64 s] w fun e w' => TblSaid (tblS (wts s (idQ k) k)) w e w' := by
  have hc := tsmayFill_any k s w
  rw [decide_eq_true (show (1 ≤ (k : Int) ∧ (k : Int) ≤ 65536) ∧ 1 ≤ s ∧ s ≤ 16777215 by omega)] at hc
  have HF := hide (fun (S K : Nat) (W : World) (EK : Box W K (.cells #[.int .i64 (k : Int)] 3)) (ES : Box W S (.cells #[.func (.func 42) #[] #[.pointer (some ⟨K, 0, none⟩)]] 57)) => fill_one k s hk hs EK ES)
  obtain ⟨r, hr⟩ : ∃ r, tblS (wts s (idQ k) k) = r := ⟨_, rfl⟩
  rw [hr] at HF ⊢
  clear hr hk hs
  go_enter Tryz.func11, Tryz.ntmps11
  go_wp2_with fail
  refine hc.mono ?_
  rintro e w1 ⟨rfl, b1⟩
  have HB1 := hide b1
  have hc := tsideal_any k w1
  clear b1
  go_wp2_with fail
  refine hc.mono ?_
  rintro e w2 ⟨K, rfl, EK, b2⟩
  have hq := below_new w2 (.cells #[.func (.func 42) #[] #[.pointer (some ⟨K, 0, none⟩)]] 57)
  have hf := HF.out w2.heap.size K _ (EK.below hq) (Box.new w2 _)
  have HB2 := hide ((HB1.out.trans (b2.mono HB1.out.size)).trans (hq.mono (HB1.out.trans (b2.mono HB1.out.size)).size))
  clear hc b2 EK hq HF HB1
  go_wp2_with fail
  refine hf.mono ?_
  rintro e w3 ⟨a, n, c, rfl, Z, b3⟩
  have HZ := hide (Z.mono HB2.out.size)
  have HB3 := hide (HB2.out.trans (b3.mono HB2.out.size))
  clear hf Z b3
  go_wp2
  go_ret2
  exact ⟨_, _, _, rfl, HZ.out, HB3.out⟩
theorem tsIdeal_any (k s : Int) (w : World) : Calls Tryz.prog 11 #[.int .i64 k, .int .i64 s] w fun e w' => TblSaid (idealS k s) w e w' := by
  by_cases h : (1 ≤ k ∧ k ≤ 65536) ∧ 1 ≤ s ∧ s ≤ 16777215
  · obtain ⟨n, rfl⟩ : ∃ n : Nat, k = n := ⟨k.toNat, by omega⟩
    rw [show idealS (n : Int) s = tblS (wts s (idQ n) n) from if_pos h]
    exact tsIdeal_yes n s (by omega) h.2 w
  · exact tsIdeal_no k s h w
def Yield.fi (k : Int) : Yield := .rel (fun v W => ∃ K : Nat, v = .func (.func 42) #[] #[.pointer (some ⟨K, 0, none⟩)] ∧ Box W K (.cells #[.int .i64 k] 3)) (fun _ _ _ hb ⟨K, e, E⟩ => ⟨K, e, E.below hb⟩)
theorem Yield.fi_elim {k : Int} {v : Value} {W : World} (P : Prop) (h : (Yield.fi k).At v W) (g : ∀ K : Nat, v = .func (.func 42) #[] #[.pointer (some ⟨K, 0, none⟩)] → Box W K (.cells #[.int .i64 k] 3) → P) : P := by
  obtain ⟨K, e, E⟩ := h; exact g K e E
def Yield.fs (m : Int) (o : Obj) : Yield := .rel (fun v W => ∃ M J : Nat, v = .func (.func 44) #[] #[.pointer (some ⟨M, 0, none⟩), .pointer (some ⟨J, 0, none⟩)] ∧ Box W M (.cells #[.int .i64 m] 3) ∧ Box W J o) (fun _ _ _ hb ⟨M, J, e, E, F⟩ => ⟨M, J, e, E.below hb, F.below hb⟩)
theorem Yield.fs_elim {m : Int} {o : Obj} {v : Value} {W : World} (P : Prop) (h : (Yield.fs m o).At v W) (g : ∀ M J : Nat, v = .func (.func 44) #[] #[.pointer (some ⟨M, 0, none⟩), .pointer (some ⟨J, 0, none⟩)] → Box W M (.cells #[.int .i64 m] 3) → Box W J o → P) : P := by
  obtain ⟨M, J, e, E, F⟩ := h; exact g M J e E F
def Yield.sh (k m : Int) (o : Obj) : Yield := .rel (fun v W => ∃ S K M J : Nat, v = .slice (some ⟨S, 0, none⟩) 2 2 ∧ Box W S (.cells #[.func (.func 42) #[] #[.pointer (some ⟨K, 0, none⟩)], .func (.func 44) #[] #[.pointer (some ⟨M, 0, none⟩), .pointer (some ⟨J, 0, none⟩)]] 57) ∧ Box W K (.cells #[.int .i64 k] 3) ∧ Box W M (.cells #[.int .i64 m] 3) ∧ Box W J o) (fun _ _ _ hb ⟨S, K, M, J, e, A, B, C, D⟩ => ⟨S, K, M, J, e, A.below hb, B.below hb, C.below hb, D.below hb⟩)
theorem Yield.sh_elim {k m : Int} {o : Obj} {v : Value} {W : World} (P : Prop) (h : (Yield.sh k m o).At v W) (g : ∀ S K M J : Nat, v = .slice (some ⟨S, 0, none⟩) 2 2 → Box W S (.cells #[.func (.func 42) #[] #[.pointer (some ⟨K, 0, none⟩)], .func (.func 44) #[] #[.pointer (some ⟨M, 0, none⟩), .pointer (some ⟨J, 0, none⟩)]] 57) → Box W K (.cells #[.int .i64 k] 3) → Box W M (.cells #[.int .i64 m] 3) → Box W J o → P) : P := by
  obtain ⟨S, K, M, J, e, A, B, C, D⟩ := h; exact g S K M J e A B C D
def Yield.tbl (lo : Nat) (p : List Int × Int) : Yield := .rel (fun v W => ∃ (a : Option Addr) (n c : Nat), v = .tuple #[.slice a n c, .int .i64 p.2] ∧ Intz lo W (.slice a n c) p.1) (fun _ _ _ hb ⟨a, n, c, e, Z⟩ => ⟨a, n, c, e, Z.below hb⟩)
theorem Yield.tbl_elim {lo : Nat} {p : List Int × Int} {v : Value} {W : World} (P : Prop) (h : (Yield.tbl lo p).At v W) (g : ∀ (a : Option Addr) (n c : Nat), v = .tuple #[.slice a n c, .int .i64 p.2] → Intz lo W (.slice a n c) p.1 → P) : P := by
  obtain ⟨a, n, c, e, Z⟩ := h; exact g a n c e Z
theorem rob_sign {b : Bool} {xs ds : List Int} (h : LowL b xs ds) (wx : Words xs) : sgn b (val xs) < 0 ↔ b = true := by
  have hv := val_nonneg wx
  cases b
  · simp [sgn]; omega
  · have hp := norm_pos wx h.1.1 (h.1.2 rfl)
    simp only [sgn, if_true]
    exact ⟨fun _ => by trivial, fun _ => by omega⟩
theorem fill_two (k : Nat) (s m : Int) (hk : 1 ≤ k ∧ k ≤ 65536) (hs : 1 ≤ s ∧ s ≤ 16777215) (hm : 1 ≤ m ∧ m ≤ k) {b : Bool} {a c : Option Addr} {ca cc : Nat} {xs ds : List Int} {w : World} (F1 : Fr 0 w a ca xs c cc ds) {q : Rat} (I1 : Is b xs ds q 4) (hq : 0 ≤ q) {S K M J : Nat}
    (ES : Box w S (.cells #[.func (.func 42) #[] #[.pointer (some ⟨K, 0, none⟩)], .func (.func 44) #[] #[.pointer (some ⟨M, 0, none⟩), .pointer (some ⟨J, 0, none⟩)]] 57)) (EK : Box w K (.cells #[.int .i64 (k : Int)] 3)) (EM : Box w M (.cells #[.int .i64 m] 3)) (EQ : Box w J (.cells #[.bool b, .slice a xs.length ca, .slice c ds.length cc] 31)) :
    Calls Tryz.prog 24 #[.int .i64 (k : Int), .int .i64 s, .slice (some ⟨S, 0, none⟩) 2 2] w fun e w' => TblSaid (tblS (wts s (robF k m q) k)) w e w' :=
  fill_any k hk s hs (robF k m q) (fun W hb d hd => (tog_two d k (by omega) (by omega) m (by omega) (EK.below hb) b (F1.below hb) I1 (EM.below hb) (EQ.below hb) (ES.below hb)).mono fun _ _ ⟨g, a, c, x, e, t, y, he, F, P, I, B⟩ => ⟨g, a, c, x, e, t, y, he, F, P, I.mono (by omega), B⟩) (fun j _ => rob_nonneg (by omega) hs.1 hm.1 hq j)
set_option maxRecDepth 100000 in
set_option maxHeartbeats 4000000 in
theorem tsRobust_form {a c : Option Addr} {ca cc : Nat} {xs ds : List Int} {w : World} (b : Bool) (F0 : Fr 0 w a ca xs c cc ds) (hl : xs.length ≤ 4 ∧ ds.length ≤ 4) (k s m : Int) (h : ¬ formR b xs ds = 0) :
    Calls Tryz.prog 12 #[.int .i64 k, .int .i64 s, .int .i64 m, .agg #[.bool b, .slice a xs.length ca, .slice c ds.length cc]] w fun e w' => TblSaid ([], 6) w e w' := by
  have h6 : formR b xs ds = 6 := by
    unfold formR at h ⊢
    split
    · rename_i g; rw [if_pos g] at h; exact absurd rfl h
    · rfl
  have HC := hide (fun (W : World) (hb : Below w.heap.size w W) => pcheck_any b (F0.below hb) (by omega) (by omega))
  rw [h6] at HC
  clear h h6
  have hB := Below.refl w.heap.size w
  go_enter Tryz.func12, Tryz.ntmps12
  have hs0 := Nat.le_refl w.heap.size
  have hq := below_new w (.cells #[.bool b, .slice a xs.length ca, .slice c ds.length cc] 31)
  replace F0 := F0.below hq
  have EQ := Box.put (w := w) (k := (w.heap.size)) (.cells #[.bool b, .slice a xs.length ca, .slice c ds.length cc] 31) rfl
  replace hs0 := Nat.le_trans hs0 hq.size
  replace hB := hB.trans (hq.mono hB.size)
  clear hq
  go_wp2_with fail
  obtain ⟨u1, hname⟩ := nm hB
  rw [hname] at hs0 hB F0 EQ ⊢
  have zh1 := hB.size
  have zs1 := hs0
  clear hname hs0
  refine (HC.out _ hB).mono ?_
  rintro e w2 ⟨rfl, hb⟩
  replace F0 := F0.below hb
  replace EQ := EQ.below hb
  replace hB := hB.trans (hb.mono hB.size)
  have zz2 := hb.size
  have zh2 := hB.size
  clear hb
  go_wp2
  go_ret2
  exact ⟨none, 0, 0, rfl, Intz.nil _ _, hB⟩
set_option maxRecDepth 100000 in
set_option maxHeartbeats 4000000 in
theorem tsRobust_range {a c : Option Addr} {ca cc : Nat} {xs ds : List Int} {w : World} (b : Bool) (F0 : Fr 0 w a ca xs c cc ds) (hl : xs.length ≤ 4 ∧ ds.length ≤ 4) (k s m : Int) (h : formR b xs ds = 0) (h1 : ¬ ((1 ≤ k ∧ k ≤ 65536) ∧ 1 ≤ s ∧ s ≤ 16777215)) :
    Calls Tryz.prog 12 #[.int .i64 k, .int .i64 s, .int .i64 m, .agg #[.bool b, .slice a xs.length ca, .slice c ds.length cc]] w fun e w' => TblSaid ([], 3) w e w' := by
  have HC := hide (fun (W : World) (hb : Below w.heap.size w W) => pcheck_any b (F0.below hb) (by omega) (by omega))
  rw [h] at HC
  clear h
  have hm := fun W => tsmayFill_any k s W
  rw [decide_eq_false h1] at hm
  have HM := hide hm
  clear hm h1
  have hB := Below.refl w.heap.size w
  go_enter Tryz.func12, Tryz.ntmps12
  have hs0 := Nat.le_refl w.heap.size
  have hq := below_new w (.cells #[.bool b, .slice a xs.length ca, .slice c ds.length cc] 31)
  replace F0 := F0.below hq
  have EQ := Box.put (w := w) (k := (w.heap.size)) (.cells #[.bool b, .slice a xs.length ca, .slice c ds.length cc] 31) rfl
  replace hs0 := Nat.le_trans hs0 hq.size
  replace hB := hB.trans (hq.mono hB.size)
  clear hq
  go_wp2_with fail
  obtain ⟨u1, hname⟩ := nm hB
  rw [hname] at hs0 hB F0 EQ ⊢
  have zh1 := hB.size
  have zs1 := hs0
  clear hname hs0
  refine (HC.out _ hB).mono ?_
  rintro e w2 ⟨rfl, hb⟩
  replace F0 := F0.below hb
  replace EQ := EQ.below hb
  replace hB := hB.trans (hb.mono hB.size)
  have zz2 := hb.size
  have zh2 := hB.size
  clear hb
  go_wp2_with fail
  refine (HM.out _).mono ?_
  rintro e w3 ⟨rfl, hb⟩
  replace F0 := F0.below hb
  replace EQ := EQ.below hb
  replace hB := hB.trans (hb.mono hB.size)
  have zz3 := hb.size
  have zh3 := hB.size
  clear hb
  go_wp2
  go_ret2
  exact ⟨none, 0, 0, rfl, Intz.nil _ _, hB⟩
set_option maxRecDepth 100000 in
set_option maxHeartbeats 4000000 in
theorem tsRobust_spike {a c : Option Addr} {ca cc : Nat} {xs ds : List Int} {w : World} (b : Bool) (F0 : Fr 0 w a ca xs c cc ds) (hl : xs.length ≤ 4 ∧ ds.length ≤ 4) (k s m : Int) (h : formR b xs ds = 0) (h1 : (1 ≤ k ∧ k ≤ 65536) ∧ 1 ≤ s ∧ s ≤ 16777215) (h2 : ¬ (1 ≤ m ∧ m ≤ k)) :
    Calls Tryz.prog 12 #[.int .i64 k, .int .i64 s, .int .i64 m, .agg #[.bool b, .slice a xs.length ca, .slice c ds.length cc]] w fun e w' => TblSaid ([], 3) w e w' := by
  have HC := hide (fun (W : World) (hb : Below w.heap.size w W) => pcheck_any b (F0.below hb) (by omega) (by omega))
  rw [h] at HC
  clear h
  have hm := fun W => tsmayFill_any k s W
  rw [decide_eq_true h1] at hm
  have HM := hide hm
  clear hm
  have hw := fun W => tswithin_any m 1 k W
  rw [decide_eq_false h2] at hw
  have HW := hide hw
  clear hw h1 h2
  have hB := Below.refl w.heap.size w
  go_enter Tryz.func12, Tryz.ntmps12
  have hs0 := Nat.le_refl w.heap.size
  have hq := below_new w (.cells #[.bool b, .slice a xs.length ca, .slice c ds.length cc] 31)
  replace F0 := F0.below hq
  have EQ := Box.put (w := w) (k := (w.heap.size)) (.cells #[.bool b, .slice a xs.length ca, .slice c ds.length cc] 31) rfl
  replace hs0 := Nat.le_trans hs0 hq.size
  replace hB := hB.trans (hq.mono hB.size)
  clear hq
  go_wp2_with fail
  obtain ⟨u1, hname⟩ := nm hB
  rw [hname] at hs0 hB F0 EQ ⊢
  have zh1 := hB.size
  have zs1 := hs0
  clear hname hs0
  refine (HC.out _ hB).mono ?_
  rintro e w2 ⟨rfl, hb⟩
  replace F0 := F0.below hb
  replace EQ := EQ.below hb
  replace hB := hB.trans (hb.mono hB.size)
  have zz2 := hb.size
  have zh2 := hB.size
  clear hb
  go_wp2_with fail
  refine (HM.out _).mono ?_
  rintro e w3 ⟨rfl, hb⟩
  replace F0 := F0.below hb
  replace EQ := EQ.below hb
  replace hB := hB.trans (hb.mono hB.size)
  have zz3 := hb.size
  have zh3 := hB.size
  clear hb
  go_wp2_with fail
  refine (HW.out _).mono ?_
  rintro e w4 ⟨rfl, hb⟩
  replace F0 := F0.below hb
  replace EQ := EQ.below hb
  replace hB := hB.trans (hb.mono hB.size)
  have zz4 := hb.size
  have zh4 := hB.size
  clear hb
  go_wp2
  go_ret2
  exact ⟨none, 0, 0, rfl, Intz.nil _ _, hB⟩
set_option maxRecDepth 100000 in
set_option maxHeartbeats 4000000 in
theorem tsRobust_sign {a c : Option Addr} {ca cc : Nat} {xs ds : List Int} {w : World} (b : Bool) (F0 : Fr 0 w a ca xs c cc ds) (hl : xs.length ≤ 4 ∧ ds.length ≤ 4) (k s m : Int) (h : formR b xs ds = 0) (h1 : (1 ≤ k ∧ k ≤ 65536) ∧ 1 ≤ s ∧ s ≤ 16777215) (h2 : 1 ≤ m ∧ m ≤ k) (h3 : b = true) :
    Calls Tryz.prog 12 #[.int .i64 k, .int .i64 s, .int .i64 m, .agg #[.bool b, .slice a xs.length ca, .slice c ds.length cc]] w fun e w' => TblSaid ([], 3) w e w' := by
  have hlow := (formR_low F0.up.words F0.down.words).1 h
  have hneg := (rob_sign hlow F0.up.words).2 h3
  have HS := hide (fun (W : World) (hb : Below w.heap.size w W) => ssign_any b (F0.up.below hb) (by omega))
  rw [cmpI_lt hneg] at HS
  clear hneg hlow h3
  have HC := hide (fun (W : World) (hb : Below w.heap.size w W) => pcheck_any b (F0.below hb) (by omega) (by omega))
  rw [h] at HC
  clear h
  have hm := fun W => tsmayFill_any k s W
  rw [decide_eq_true h1] at hm
  have HM := hide hm
  clear hm
  have hw := fun W => tswithin_any m 1 k W
  rw [decide_eq_true h2] at hw
  have HW := hide hw
  clear hw
  clear h1 h2
  have hB := Below.refl w.heap.size w
  go_enter Tryz.func12, Tryz.ntmps12
  have hs0 := Nat.le_refl w.heap.size
  have hq := below_new w (.cells #[.bool b, .slice a xs.length ca, .slice c ds.length cc] 31)
  replace F0 := F0.below hq
  have EQ := Box.put (w := w) (k := (w.heap.size)) (.cells #[.bool b, .slice a xs.length ca, .slice c ds.length cc] 31) rfl
  replace hs0 := Nat.le_trans hs0 hq.size
  replace hB := hB.trans (hq.mono hB.size)
  clear hq
  go_wp2_with fail
  obtain ⟨u1, hname⟩ := nm hB
  rw [hname] at hs0 hB F0 EQ ⊢
  have zh1 := hB.size
  have zs1 := hs0
  clear hname hs0
  refine (HC.out _ hB).mono ?_
  rintro e w2 ⟨rfl, hb⟩
  replace F0 := F0.below hb
  replace EQ := EQ.below hb
  replace hB := hB.trans (hb.mono hB.size)
  have zz2 := hb.size
  have zh2 := hB.size
  clear hb
  go_wp2_with fail
  refine (HM.out _).mono ?_
  rintro e w3 ⟨rfl, hb⟩
  replace F0 := F0.below hb
  replace EQ := EQ.below hb
  replace hB := hB.trans (hb.mono hB.size)
  have zz3 := hb.size
  have zh3 := hB.size
  clear hb
  go_wp2_with fail
  refine (HW.out _).mono ?_
  rintro e w4 ⟨rfl, hb⟩
  replace F0 := F0.below hb
  replace EQ := EQ.below hb
  replace hB := hB.trans (hb.mono hB.size)
  have zz4 := hb.size
  have zh4 := hB.size
  clear hb
  obtain ⟨k0, k1, k2, f0, f1, f2⟩ := EQ.three
  go_wp2_with fail
  clear k0 k1 k2 f0 f1 f2
  refine (HS.out _ hB).mono ?_
  rintro e w5 ⟨rfl, hb⟩
  replace F0 := F0.below hb
  replace EQ := EQ.below hb
  replace hB := hB.trans (hb.mono hB.size)
  have zz5 := hb.size
  have zh5 := hB.size
  clear hb
  go_wp2
  go_ret2
  exact ⟨none, 0, 0, rfl, Intz.nil _ _, hB⟩
set_option maxRecDepth 100000 in
set_option maxHeartbeats 4000000 in
theorem tsRobust_ok {a c : Option Addr} {ca cc : Nat} {xs ds : List Int} {w : World} (b : Bool) (F0 : Fr 0 w a ca xs c cc ds) (hl : xs.length ≤ 4 ∧ ds.length ≤ 4) (k : Nat) (s m : Int) (h : formR b xs ds = 0) (h1 : (1 ≤ (k : Int) ∧ (k : Int) ≤ 65536) ∧ 1 ≤ s ∧ s ≤ 16777215) (h2 : 1 ≤ m ∧ m ≤ k) (h3 : b = false) :
    Calls Tryz.prog 12 #[.int .i64 (k : Int), .int .i64 s, .int .i64 m, .agg #[.bool b, .slice a xs.length ca, .slice c ds.length cc]] w fun e w' => TblSaid (tblS (wts s (robF k m (ratL b xs ds)) k)) w e w' := by
  have hlow := (formR_low F0.up.words F0.down.words).1 h
  have hpos : ¬ sgn b (val xs) < 0 := fun hh => by rw [h3] at hh; have := val_nonneg F0.up.words; simp [sgn] at hh; omega
  have HS := hide (fun (W : World) (hb : Below w.heap.size w W) => ssign_any b (F0.up.below hb) (by omega))
  obtain ⟨z, hz, hz0⟩ : ∃ z, cmpI (sgn b (val xs)) 0 = z ∧ 0 ≤ z := ⟨_, rfl, by unfold cmpI; split <;> (try split) <;> omega⟩
  rw [hz] at HS
  have hzf : decide (z < 0) = false := decide_eq_false (by omega)
  clear hz
  have I1 : Is b xs ds (ratL b xs ds) 4 := ⟨hlow, rfl, hl.1, hl.2⟩
  have hq : 0 ≤ ratL b xs ds := by rw [h3]; exact ratL_nonneg F0.up.words hlow.2.2.1
  have HF := hide (fun (W : World) (S K M J : Nat) (F : Fr 0 W a ca xs c cc ds) => fill_two k s m (by omega) h1.2 h2 F I1 hq (S := S) (K := K) (M := M) (J := J))
  obtain ⟨r, hr⟩ : ∃ r, tblS (wts s (robF k m (ratL b xs ds)) k) = r := ⟨_, rfl⟩
  rw [hr] at HF ⊢
  clear hr I1 hq hpos hlow h3
  have HC := hide (fun (W : World) (hb : Below w.heap.size w W) => pcheck_any b (F0.below hb) (by omega) (by omega))
  rw [h] at HC
  clear h
  have hm := fun W => tsmayFill_any k s W
  rw [decide_eq_true h1] at hm
  have HM := hide hm
  clear hm
  have hw := fun W => tswithin_any m 1 k W
  rw [decide_eq_true h2] at hw
  have HW := hide hw
  clear hw
  clear h1 h2
  have hB := Below.refl w.heap.size w
  go_enter Tryz.func12, Tryz.ntmps12
  have hs0 := Nat.le_refl w.heap.size
  have hq := below_new w (.cells #[.bool b, .slice a xs.length ca, .slice c ds.length cc] 31)
  replace F0 := F0.below hq
  have EQ := Box.put (w := w) (k := (w.heap.size)) (.cells #[.bool b, .slice a xs.length ca, .slice c ds.length cc] 31) rfl
  replace hs0 := Nat.le_trans hs0 hq.size
  replace hB := hB.trans (hq.mono hB.size)
  clear hq
  go_wp2_with fail
  obtain ⟨u1, hname⟩ := nm hB
  rw [hname] at hs0 hB F0 EQ ⊢
  have zh1 := hB.size
  have zs1 := hs0
  clear hname hs0
  refine (HC.out _ hB).mono ?_
  rintro e w2 ⟨rfl, hb⟩
  replace F0 := F0.below hb
  replace EQ := EQ.below hb
  replace hB := hB.trans (hb.mono hB.size)
  have zz2 := hb.size
  have zh2 := hB.size
  clear hb
  go_wp2_with fail
  refine (HM.out _).mono ?_
  rintro e w3 ⟨rfl, hb⟩
  replace F0 := F0.below hb
  replace EQ := EQ.below hb
  replace hB := hB.trans (hb.mono hB.size)
  have zz3 := hb.size
  have zh3 := hB.size
  clear hb
  go_wp2_with fail
  refine (HW.out _).mono ?_
  rintro e w4 ⟨rfl, hb⟩
  replace F0 := F0.below hb
  replace EQ := EQ.below hb
  replace hB := hB.trans (hb.mono hB.size)
  have zz4 := hb.size
  have zh4 := hB.size
  clear hb
  obtain ⟨k0, k1, k2, f0, f1, f2⟩ := EQ.three
  go_wp2_with fail
  clear k0 k1 k2 f0 f1 f2
  refine (HS.out _ hB).mono ?_
  rintro e w5 ⟨rfl, hb⟩
  replace F0 := F0.below hb
  replace EQ := EQ.below hb
  replace hB := hB.trans (hb.mono hB.size)
  have zz5 := hb.size
  have zh5 := hB.size
  clear hb
  obtain ⟨k0, k1, k2, f0, f1, f2⟩ := EQ.three
  go_wp2_with fail
  clear k0 k1 k2 f0 f1 f2
  replace F0 := F0.drew
  have qEQ := EQ.lt
  replace EQ := EQ.drew
  refine wp_yields 9 [.is (.int .i64 (k : Int)), .is (.int .i64 s), .is (.int .i64 (k : Int)), (Yield.fi k), .is (.int .i64 m), .is (.agg #[.bool b, .slice a xs.length ca, .slice c ds.length cc]), (Yield.fs m (.cells #[.bool b, .slice a xs.length ca, .slice c ds.length cc] 31)), (Yield.sh k m (.cells #[.bool b, .slice a xs.length ca, .slice c ds.length cc] 31)), (Yield.tbl w5.heap.size r)] (by kernel_rfl) (by kernel_rfl) (lt_cons ?_ (lt_cons ?_ (lt_cons ?_ (lt_cons ?_ (lt_cons ?_ (lt_cons ?_ (lt_cons ?_ (lt_cons ?_ (lt_cons ?_ lt_nil))))))))) ?_
  case refine_1 =>
    refine OpDoes.mk rfl ?_
    intro vs V hV hd K hK
    have d0 : vs 0 = .int .i64 (k : Int) := hd 0 (by decide) (by kernel_rfl)
    have d1 : vs 1 = .int .i64 s := hd 1 (by decide) (by kernel_rfl)
    have hh := fun (P : Prop) => Yield.sh_elim P (show ((Yield.sh k m (.cells #[.bool b, .slice a xs.length ca, .slice c ds.length cc] 31)) : Yield).At (vs 7) V from hd 7 (by decide) (by kernel_rfl))
    refine hh _ ?_
    intro S3 KK3 MM3 JJ3 d7 A3 B3 C3 D3
    clear hh
    simp only [laidIn, lz1, lz2, lz3, lz4, lz5, lz6, if_true, Act.put, lz7, lz8, lz9] at hK ⊢
    simp only [d0, d1, d7] at hK ⊢
    go_simp
    go_at_call 24
    refine (HF.out _ _ _ _ _ (F0.below hV) A3 B3 C3 D3).mono ?_
    rintro e V' ⟨a4, n4, c4, rfl, Z4, hb⟩
    exact hK.out _ _ hb ⟨_, _, _, rfl, Z4.mono hV.size⟩ (not_fresh rfl)
  case refine_2 =>
    refine OpDoes.mk rfl ?_
    intro vs V hV hd K hK
    have hh := fun (P : Prop) => Yield.fi_elim P (show ((Yield.fi k) : Yield).At (vs 3) V from hd 3 (by decide) (by kernel_rfl))
    refine hh _ ?_
    intro K1 d3 E11
    clear hh
    have hh := fun (P : Prop) => Yield.fs_elim P (show ((Yield.fs m (.cells #[.bool b, .slice a xs.length ca, .slice c ds.length cc] 31)) : Yield).At (vs 6) V from hd 6 (by decide) (by kernel_rfl))
    refine hh _ ?_
    intro M2 J2 d6 E22 E32
    clear hh
    simp only [laidIn, lz1, lz2, lz3, lz4, lz5, lz6, if_true, Act.put, lz7, lz8, lz9] at hK ⊢
    simp only [d3, d6] at hK ⊢
    go_simp
    have hbn := below_new V (.cells #[.func (.func 42) #[] #[.pointer (some ⟨K1, 0, none⟩)], .func (.func 44) #[] #[.pointer (some ⟨M2, 0, none⟩), .pointer (some ⟨J2, 0, none⟩)]] 57)
    exact hK.out _ _ ((Below.refl _ _).a1 _) ⟨_, _, _, _, rfl, Box.new V _, E11.below hbn, E22.below hbn, E32.below hbn⟩ (not_fresh rfl)
  case refine_3 =>
    refine OpDoes.mk rfl ?_
    intro vs V hV hd K hK
    have d4 : vs 4 = .int .i64 m := hd 4 (by decide) (by kernel_rfl)
    have d5 : vs 5 = .agg #[.bool b, .slice a xs.length ca, .slice c ds.length cc] := hd 5 (by decide) (by kernel_rfl)
    simp only [laidIn, lz1, lz2, lz3, lz4, lz5, lz6, if_true, Act.put, lz7, lz8, lz9] at hK ⊢
    simp only [d4, d5] at hK ⊢
    go_simp
    go_at_call 27
    refine (tsspiked_any m b a c ca cc xs ds _).mono ?_
    rintro e V' ⟨M2, J2, rfl, E22, E32, hb⟩
    exact hK.out _ _ hb ⟨_, _, rfl, E22, E32⟩ (not_fresh rfl)
  case refine_4 =>
    refine OpDoes.mk rfl ?_
    intro vs V hV hd K hK
    have hcc := (EQ.below hV).three
    have k0 := hcc.1
    have k1 := hcc.2.1
    have k2 := hcc.2.2.1
    clear hcc
    simp only [laidIn, lz1, lz2, lz3, lz4, lz5, lz6, if_true, Act.put, lz7, lz8, lz9] at hK ⊢
    go_simp
    exact hK.out _ _ (Below.refl _ _) rfl (not_fresh rfl)
  case refine_5 =>
    refine OpDoes.mk rfl ?_
    intro vs V hV hd K hK
    simp only [laidIn, lz1, lz2, lz3, lz4, lz5, lz6, if_true, Act.put, lz7, lz8, lz9] at hK ⊢
    go_simp
    exact hK.out _ _ (Below.refl _ _) rfl (not_fresh rfl)
  case refine_6 =>
    refine OpDoes.mk rfl ?_
    intro vs V hV hd K hK
    have d2 : vs 2 = .int .i64 (k : Int) := hd 2 (by decide) (by kernel_rfl)
    simp only [laidIn, lz1, lz2, lz3, lz4, lz5, lz6, if_true, Act.put, lz7, lz8, lz9] at hK ⊢
    simp only [d2] at hK ⊢
    go_simp
    go_at_call 25
    refine (tsideal_any k _).mono ?_
    rintro e V' ⟨K1, rfl, E11, hb⟩
    exact hK.out _ _ hb ⟨_, rfl, E11⟩ (not_fresh rfl)
  case refine_7 =>
    refine OpDoes.mk rfl ?_
    intro vs V hV hd K hK
    simp only [laidIn, lz1, lz2, lz3, lz4, lz5, lz6, if_true, Act.put, lz7, lz8, lz9] at hK ⊢
    go_simp
    exact hK.out _ _ (Below.refl _ _) rfl (not_fresh rfl)
  case refine_8 =>
    refine OpDoes.mk rfl ?_
    intro vs V hV hd K hK
    simp only [laidIn, lz1, lz2, lz3, lz4, lz5, lz6, if_true, Act.put, lz7, lz8, lz9] at hK ⊢
    go_simp
    exact hK.out _ _ (Below.refl _ _) rfl (not_fresh rfl)
  case refine_9 =>
    refine OpDoes.mk rfl ?_
    intro vs V hV hd K hK
    simp only [laidIn, lz1, lz2, lz4, lz5, lz6, if_true, Act.put, lz7, lz8, lz9] at hK ⊢
    go_simp
    exact hK.out _ _ (Below.refl _ _) rfl (not_fresh rfl)
  case refine_10 =>
    intro vs Y1 hV hR hne fuel
    have d0 : vs 0 = .int .i64 (k : Int) := hR 0 (by decide)
    have d1 : vs 1 = .int .i64 s := hR 1 (by decide)
    have d2 : vs 2 = .int .i64 (k : Int) := hR 2 (by decide)
    have hh := fun (P : Prop) => Yield.fi_elim P (show ((Yield.fi k) : Yield).At (vs 3) Y1 from hR 3 (by decide))
    refine hh _ ?_
    intro K1 d3 E11
    clear hh
    have d4 : vs 4 = .int .i64 m := hR 4 (by decide)
    have d5 : vs 5 = .agg #[.bool b, .slice a xs.length ca, .slice c ds.length cc] := hR 5 (by decide)
    have hh := fun (P : Prop) => Yield.fs_elim P (show ((Yield.fs m (.cells #[.bool b, .slice a xs.length ca, .slice c ds.length cc] 31)) : Yield).At (vs 6) Y1 from hR 6 (by decide))
    refine hh _ ?_
    intro M2 J2 d6 E22 E32
    clear hh
    have hh := fun (P : Prop) => Yield.sh_elim P (show ((Yield.sh k m (.cells #[.bool b, .slice a xs.length ca, .slice c ds.length cc] 31)) : Yield).At (vs 7) Y1 from hR 7 (by decide))
    refine hh _ ?_
    intro S3 KK3 MM3 JJ3 d7 A3 B3 C3 D3
    clear hh
    have hh := fun (P : Prop) => Yield.tbl_elim P (show ((Yield.tbl w5.heap.size r) : Yield).At (vs 8) Y1 from hR 8 (by decide))
    refine hh _ ?_
    intro a4 n4 c4 d8 Z4
    clear hh
    replace F0 := F0.below hV
    replace EQ := EQ.below hV
    have hr := hV
    simp only [laidIn, lz4, lz5, lz6, if_true, Act.put, lz7, lz8, lz9]
    simp only [d0, d1, d2, d3, d4, d5, d6, d7, d8]
    clear hR hne hV d0 d1 d2 d3 d4 d5 d6 d7 d8
    clear vs
    show wpAny _ _ _ _ (fuel + 4) _ _ _
    apply mp_of
    case f =>
      intro hgoal
      refine wpAny_all (rs := [9, 10]) (by kernel_rfl) (by simp) (fun i hi => ?_)
      rcases (show i = 9 ∨ i = 10 by simpa using hi) with rfl | rfl
      · clear hi
        refine wpOp_step rfl (fun K hK => ?_)
        simp only [lz1, lz2, lz3]
        rw [if_pos (by rfl)]
        go_simp
        refine hK _ _ ?_
        clear hK
        refine wpAny_all (rs := [10]) (by kernel_rfl) (by simp) (fun i hi => ?_)
        obtain rfl : i = 10 := by simpa using hi
        clear hi
        refine wpOp_step rfl (fun K hK => ?_)
        simp only [lz1, lz2, lz3]
        rw [if_pos (by rfl)]
        go_simp
        refine hK _ _ ?_
        clear hK
        refine wpAny_all (rs := [11]) (by kernel_rfl) (by simp) (fun i hi => ?_)
        obtain rfl : i = 11 := by simpa using hi
        clear hi
        refine wpOp_step rfl (fun K hK => ?_)
        simp only [lz1, lz2, lz3]
        rw [if_pos (by rfl)]
        go_simp
        refine hK _ _ ?_
        clear hK
        refine wpAny_all (rs := [12]) (by kernel_rfl) (by simp) (fun i hi => ?_)
        obtain rfl : i = 12 := by simpa using hi
        clear hi
        refine wpOp_step rfl (fun K hK => ?_)
        simp only [lz1, lz2, lz3]
        rw [if_pos (by rfl)]
        go_simp
        refine hK _ _ ?_
        clear hK
        refine wpAny_done (by kernel_rfl) ?_ _
        exact hgoal
      · clear hi
        refine wpOp_step rfl (fun K hK => ?_)
        simp only [lz1, lz2, lz3]
        rw [if_pos (by rfl)]
        go_simp
        refine hK _ _ ?_
        clear hK
        refine wpAny_all (rs := [9]) (by kernel_rfl) (by simp) (fun i hi => ?_)
        obtain rfl : i = 9 := by simpa using hi
        clear hi
        refine wpOp_step rfl (fun K hK => ?_)
        simp only [lz1, lz2, lz3]
        rw [if_pos (by rfl)]
        go_simp
        refine hK _ _ ?_
        clear hK
        refine wpAny_all (rs := [11]) (by kernel_rfl) (by simp) (fun i hi => ?_)
        obtain rfl : i = 11 := by simpa using hi
        clear hi
        refine wpOp_step rfl (fun K hK => ?_)
        simp only [lz1, lz2, lz3]
        rw [if_pos (by rfl)]
        go_simp
        refine hK _ _ ?_
        clear hK
        refine wpAny_all (rs := [12]) (by kernel_rfl) (by simp) (fun i hi => ?_)
        obtain rfl : i = 12 := by simpa using hi
        clear hi
        refine wpOp_step rfl (fun K hK => ?_)
        simp only [lz1, lz2, lz3]
        rw [if_pos (by rfl)]
        go_simp
        refine hK _ _ ?_
        clear hK
        refine wpAny_done (by kernel_rfl) ?_ _
        exact hgoal
    case p =>
      replace hB := hB.trans ((Below.trans (Below.drew (Below.refl w5.heap.size w5)) hr).mono hB.size)
      have zz5_0 := hr.size
      have zi1 := hB.size
      clear hr
      go_wp2
      go_ret2
      exact ⟨_, _, _, rfl, Z4.mono (by omega), hB⟩
end Go.Proofs.YtejocefblpkdjabGreat
namespace Go.Proofs.YtejocefblpkdjabGreat
open Go.RowKit
open Go.RowKit
end Go.Proofs.YtejocefblpkdjabGreat
namespace Go.Proofs.YtejocefblpkdjabGreat
open Go.RowKit
theorem intz_box {W : World} {k n : Nat} {cs : Array Value} {t : TypeId} (E : Box W k (.cells cs t (0, 0))) (zs : List Int) (hz : Nums zs) (hn : zs.length = n) (h : cs = (zs.map (Value.int .i64)).toArray) : Intz k W (.slice (some ⟨k, 0, none⟩) n n) zs := by
  subst h hn
  refine ⟨hz, _, _, rfl, Nat.le_refl _, fun _ => ⟨k, 0, rfl, Nat.le_refl _, E.lt, fun j hj => ?_, fun j hj => frozen_of_heap E.what _⟩⟩
  rw [cell_of_heap E.what]
  simp [hj]
set_option maxRecDepth 100000 in
set_option maxHeartbeats 1000000 in
theorem lt_is_any {lo lo2 : Nat} {a p : Option Addr} {n c m d : Nat} {zs ys : List Int} {w : World} (X : Intz lo w (.slice a n c) zs) (Y : Intz lo2 w (.slice p m d) ys) (hl : n ≤ 17592186044416) (e : Int) :
    Calls Tryz.prog 13 #[.slice a n c, .int .i64 e, .slice p m d] w fun r w' => r = .returned (.bool (decide (e = 0 ∧ zs = ys))) ∧ Below w.heap.size w w' := by
  have hc := sameints_any X Y hl
  by_cases h : e = 0
  · subst h
    rw [show decide ((0 : Int) = 0 ∧ zs = ys) = decide (zs = ys) by simp]
    obtain ⟨r, hr⟩ : ∃ r, decide (zs = ys) = r := ⟨_, rfl⟩
    rw [hr] at hc ⊢
    clear hr
    go_enter Tryz.func13, Tryz.ntmps13
    go_wp2_with fail
    refine hc.mono ?_
    rintro e w1 ⟨rfl, b1⟩
    have HB := hide b1
    clear hc b1
    go_wp2
    go_ret
    exact ⟨rfl, HB.out⟩
  · rw [decide_eq_false (fun h' => h h'.1)]
    have he : (e == 0) = false := beq_eq_false_iff_ne.2 h
    clear hc
    go_enter Tryz.func13, Tryz.ntmps13
    go_wp2
    go_ret
    exact ⟨rfl, Below.refl _ _⟩
def robQ (q : Rat) (k s m : Int) : List Int × Int := if ((1 ≤ k ∧ k ≤ 65536) ∧ 1 ≤ s ∧ s ≤ 16777215) ∧ (1 ≤ m ∧ m ≤ k) ∧ 0 ≤ q then tblS (wts s (robF k m q) k.toNat) else ([], 3)
theorem Is.below_iff {b : Bool} {xs ds : List Int} {q : Rat} {n : Nat} (I : Is b xs ds q n) (wx : Words xs) : b = false ↔ 0 ≤ q := by
  have h := rob_sign I.low wx
  rw [← I.rat, ratL, Rat.divInt_nonneg_iff_of_pos_right I.low.2.2.1]
  cases b
  · have := val_nonneg wx
    simp [sgn, this]
  · have := h.2 rfl
    constructor
    · intro h'; cases h'
    · intro h'; omega
theorem robustS_is {b : Bool} {xs ds : List Int} {q : Rat} {n : Nat} (I : Is b xs ds q n) (wx : Words xs) (wd : Words ds) (k s m : Int) : robustS b xs ds k s m = robQ q k s m := by
  unfold robustS robQ
  rw [if_pos ((formR_low wx wd).2 I.low), I.rat]
  by_cases h : ((1 ≤ k ∧ k ≤ 65536) ∧ 1 ≤ s ∧ s ≤ 16777215) ∧ (1 ≤ m ∧ m ≤ k) ∧ b = false
  · rw [if_pos h, if_pos ⟨h.1, h.2.1, (I.below_iff wx).1 h.2.2⟩]
  · rw [if_neg h, if_neg (fun g => h ⟨g.1, g.2.1, (I.below_iff wx).2 g.2.2⟩)]
theorem tsRobust_any {a c : Option Addr} {ca cc : Nat} {xs ds : List Int} {w : World} (b : Bool) (F : Fr 0 w a ca xs c cc ds) (hl : xs.length ≤ 4 ∧ ds.length ≤ 4) (k s m : Int) :
    Calls Tryz.prog 12 #[.int .i64 k, .int .i64 s, .int .i64 m, .agg #[.bool b, .slice a xs.length ca, .slice c ds.length cc]] w fun e w' => TblSaid (robustS b xs ds k s m) w e w' := by
  unfold robustS
  by_cases h : formR b xs ds = 0
  · rw [if_pos h]
    by_cases h1 : (1 ≤ k ∧ k ≤ 65536) ∧ 1 ≤ s ∧ s ≤ 16777215
    · by_cases h2 : 1 ≤ m ∧ m ≤ k
      · cases b
        · rw [if_pos ⟨h1, h2, rfl⟩]
          obtain ⟨n, rfl⟩ : ∃ n : Nat, k = n := ⟨k.toNat, by omega⟩
          exact tsRobust_ok false F hl n s m h h1 h2 rfl
        · rw [if_neg (fun h => by cases h.2.2)]
          exact tsRobust_sign true F hl k s m h h1 h2 rfl
      · rw [if_neg (fun h => h2 h.2.1)]
        exact tsRobust_spike b F hl k s m h h1 h2
    · rw [if_neg (fun h => h1 h.1)]
      exact tsRobust_range b F hl k s m h h1
  · rw [if_neg h]
    exact tsRobust_form b F hl k s m h
set_option maxRecDepth 100000 in
set_option maxHeartbeats 4000000 in
theorem lt_awake_any (w : World) : Calls Tryz.prog 4 #[] w fun e w' => e = .returned (.bool true) ∧ Below w.heap.size w w' := by
  have hB := Below.refl w.heap.size w
  go_enter Tryz.func4, Tryz.ntmps4
  go_wp2_with fail
  have hk := tsIdeal_any 3 60 w
  rw [show idealS 3 60 = ([20, 30, 10], 0) by decide +kernel] at hk
  refine (hk).mono ?_
  rintro e w1 ⟨a1, n1, c1, rfl, Z1, hb⟩
  clear hk
  dsimp only at Z1 ⊢
  obtain rfl : n1 = 3 := Z1.len.1
  replace hB := hB.trans (hb.mono hB.size)
  have zz1 := hb.size
  have zh1 := hB.size
  clear hb
  go_wp2_with fail
  refine (lt_part_any 1 4 (by decide) (by decide) (by decide) _).mono ?_
  rintro e w2 ⟨g2, a2, c2, x2, e2, t2, y2, rfl, F2, P2, I2, hb⟩
  replace I2 : Is g2 x2 y2 (Rat.divInt 1 4) (1) := I2.mono (by omega)
  replace Z1 := Z1.below hb
  replace hB := hB.trans (hb.mono hB.size)
  have zz2 := hb.size
  have zh2 := hB.size
  clear hb
  go_wp2_with fail
  have hk := tsRobust_any g2 (F2.mono (Nat.zero_le _)) ⟨by have := I2.lu; omega, by have := I2.ld; omega⟩ 3 60 2
  rw [robustS_is I2 F2.up.words F2.down.words, show robQ (Rat.divInt 1 4) 3 60 2 = ([50, 45, 10], 0) by decide +kernel] at hk
  refine (hk).mono ?_
  rintro e w3 ⟨a3, n3, c3, rfl, Z3, hb⟩
  clear hk
  dsimp only at Z3 ⊢
  obtain rfl : n3 = 3 := Z3.len.1
  replace Z1 := Z1.below hb
  replace F2 := F2.below hb
  replace hB := hB.trans (hb.mono hB.size)
  have zz3 := hb.size
  have zh3 := hB.size
  clear hb
  clear I2
  clear F2
  have hs0 := Nat.le_refl w3.heap.size
  have hq := below_new w3 (.cells #[.int .i64 20, .int .i64 30, .int .i64 10] 3)
  replace Z1 := Z1.below hq
  replace Z3 := Z3.below hq
  have L4 := Box.put (w := w3) (k := (w3.heap.size)) (.cells #[.int .i64 20, .int .i64 30, .int .i64 10] 3) rfl
  replace hs0 := Nat.le_trans hs0 hq.size
  replace hB := hB.trans (hq.mono hB.size)
  clear hq
  go_wp2_with fail
  obtain ⟨u4, hname⟩ := nm hB
  rw [hname] at hs0 hB Z1 Z3 L4 ⊢
  have zh4 := hB.size
  have zs4 := hs0
  clear hname hs0
  have Z4 := intz_box L4 [20, 30, 10] (by unfold Nums; decide) rfl rfl
  have hk := lt_is_any Z1 Z4 (by decide) 0
  rw [decide_eq_true ⟨rfl, rfl⟩] at hk
  refine (hk).mono ?_
  rintro e w5 ⟨rfl, hb⟩
  replace Z1 := Z1.below hb
  replace Z3 := Z3.below hb
  replace L4 := L4.below hb
  replace hB := hB.trans (hb.mono hB.size)
  have zz5 := hb.size
  have zh5 := hB.size
  clear hb
  clear hk
  clear Z4
  clear L4
  clear Z1
  have hs0 := Nat.le_refl w5.heap.size
  have hq := below_new w5 (.cells #[.int .i64 50, .int .i64 45, .int .i64 10] 3)
  replace Z3 := Z3.below hq
  have L5 := Box.put (w := w5) (k := (w5.heap.size)) (.cells #[.int .i64 50, .int .i64 45, .int .i64 10] 3) rfl
  replace hs0 := Nat.le_trans hs0 hq.size
  replace hB := hB.trans (hq.mono hB.size)
  clear hq
  go_wp2_with fail
  obtain ⟨u6, hname⟩ := nm hB
  rw [hname] at hs0 hB Z3 L5 ⊢
  have zh6 := hB.size
  have zs6 := hs0
  clear hname hs0
  have Z5 := intz_box L5 [50, 45, 10] (by unfold Nums; decide) rfl rfl
  have hk := lt_is_any Z3 Z5 (by decide) 0
  rw [decide_eq_true ⟨rfl, rfl⟩] at hk
  refine (hk).mono ?_
  rintro e w7 ⟨rfl, hb⟩
  replace Z3 := Z3.below hb
  replace L5 := L5.below hb
  replace hB := hB.trans (hb.mono hB.size)
  have zz7 := hb.size
  have zh7 := hB.size
  clear hb
  clear hk
  clear Z5
  clear L5
  clear Z3
  have hs0 := Nat.le_refl w7.heap.size
  have hq := below_new w7 (.cells #[.int .i64 1, .int .i64 2, .int .i64 4] 3)
  have L6 := Box.put (w := w7) (k := (w7.heap.size)) (.cells #[.int .i64 1, .int .i64 2, .int .i64 4] 3) rfl
  replace hs0 := Nat.le_trans hs0 hq.size
  replace hB := hB.trans (hq.mono hB.size)
  clear hq
  go_wp2_with fail
  obtain ⟨u8, hname⟩ := nm hB
  rw [hname] at hs0 hB L6 ⊢
  have zh8 := hB.size
  have zs8 := hs0
  clear hname hs0
  have Z6 := intz_box L6 [1, 2, 4] (by unfold Nums; decide) rfl rfl
  have hk := tstotal_any Z6 (by decide)
  rw [show totT [1, 2, 4] = 7 by decide +kernel] at hk
  refine (hk).mono ?_
  rintro e w9 ⟨rfl, hb⟩
  replace L6 := L6.below hb
  replace hB := hB.trans (hb.mono hB.size)
  have zz9 := hb.size
  have zh9 := hB.size
  clear hb
  clear hk
  clear Z6
  clear L6
  have hs0 := Nat.le_refl w9.heap.size
  have hq := below_new w9 (.cells #[.int .i64 5] 3)
  have L7 := Box.put (w := w9) (k := (w9.heap.size)) (.cells #[.int .i64 5] 3) rfl
  replace hs0 := Nat.le_trans hs0 hq.size
  replace hB := hB.trans (hq.mono hB.size)
  clear hq
  go_wp2_with fail
  obtain ⟨u10, hname⟩ := nm hB
  rw [hname] at hs0 hB L7 ⊢
  have zh10 := hB.size
  have zs10 := hs0
  clear hname hs0
  have Z7 := intz_box L7 [5] (by unfold Nums; decide) rfl rfl
  have hk := tscheck_any Z7 1
  rw [show chkT [5] 1 = 0 by decide +kernel] at hk
  refine (hk).mono ?_
  rintro e w11 ⟨rfl, hb⟩
  replace L7 := L7.below hb
  replace hB := hB.trans (hb.mono hB.size)
  have zz11 := hb.size
  have zh11 := hB.size
  clear hb
  clear hk
  clear Z7
  clear L7
  go_wp2
  go_ret
  exact ⟨rfl, hB⟩
def psum (zs : List Int) : Nat → Int
  | 0 => 0
  | i + 1 => psum zs i + zs[i]?.getD 0 * ((i : Int) + 1)
theorem psum_all {zs : List Int} (h : ∀ z ∈ zs, 0 ≤ z ∧ z ≤ 16777215) (hl : zs.length ≤ 60) : ∀ i : Nat, i ≤ zs.length → wsum zs i = psum zs i ∧ 0 ≤ psum zs i ∧ psum zs i ≤ i * 1006632900 ∧ sumI (zs.take i) ≤ psum zs i ∧ psum zs i ≤ zs.length * sumI (zs.take i)
  | 0, _ => by simp [wsum, psum, sumI]
  | i + 1, hi => by
    obtain ⟨h1, h2, h3, h4, h5⟩ := psum_all h hl i (by omega)
    have hz := h _ (getD_mem (zs := zs) (j := i) (by omega))
    rw [take_snoc (by omega), sumI_snoc, wsum, psum, h1]
    generalize zs[i]?.getD 0 = z at *
    generalize psum zs i = p at *
    generalize sumI (zs.take i) = t at *
    have q1 : z * 1 ≤ z * ((i : Int) + 1) := Int.mul_le_mul_of_nonneg_left (by omega) hz.1
    have q2 : z * ((i : Int) + 1) ≤ z * zs.length := Int.mul_le_mul_of_nonneg_left (by omega) hz.1
    have q3 : z * ((i : Int) + 1) ≤ 16777215 * 60 := Int.mul_le_mul hz.2 (by omega) (by omega) (by decide)
    rw [show (zs.length : Int) * (t + z) = zs.length * t + z * zs.length by rw [Int.mul_add, Int.mul_comm _ z]]
    generalize z * ((i : Int) + 1) = m at *
    generalize z * (zs.length : Int) = m2 at *
    generalize (zs.length : Int) * t = m3 at *
    have e1 : wrap64 m = m := by unfold wrap64; omega
    have e2 : wrap64 (p + m) = p + m := by unfold wrap64; omega
    rw [e1, e2]
    omega
theorem mean_within {zs : List Int} {k : Int} (h : MayT zs k) (hl : zs.length ≤ 60) : 0 ≤ cmpR (Rat.divInt (wsum zs zs.length) (totT zs)) (Rat.divInt 1 1) ∧ cmpR (Rat.divInt (wsum zs zs.length) (totT zs)) (Rat.divInt zs.length 1) ≤ 0 := by
  obtain ⟨h1, h2, h3, h4, h5⟩ := psum_all h.2.2.2.2.1 hl zs.length (Nat.le_refl _)
  have ht := tot_pos h
  rw [List.take_length, ← totT_sum h.2.2.2.2.1 (by omega)] at h4 h5
  rw [h1]
  generalize psum zs zs.length = p at *
  generalize totT zs = t at *
  rw [cmpR_divInt ht.1 (by decide), cmpR_divInt ht.1 (by decide)]
  unfold cmpI
  generalize (zs.length : Int) * t = m at *
  constructor
  · split
    · omega
    · split <;> omega
  · split
    · omega
    · split
      · omega
      · omega
def oneL (n w : Nat) : List Int := (List.replicate n 0).set w 5
theorem oneL_len (n w : Nat) : (oneL n w).length = n := by simp [oneL]
theorem oneL_get {n w j : Nat} (hj : j < n) : (oneL n w)[j]?.getD 0 = if w = j then 5 else 0 := by
  unfold oneL
  rw [List.getElem?_set]
  split
  · subst_vars
    simp [hj]
  · simp [hj]
theorem oneL_mem {n w : Nat} {z : Int} (h : z ∈ oneL n w) : z = 0 ∨ z = 5 := by
  obtain ⟨j, hj, rfl⟩ := mem_getD h
  rw [oneL_len] at hj
  rw [oneL_get hj]
  split <;> simp
theorem oneL_may {n w : Nat} (hw : w < n) (hn : n ≤ 60) : MayT (oneL n w) 65536 := by
  refine ⟨by decide, by decide, by rw [oneL_len]; omega, by rw [oneL_len]; omega, fun z hz => by rcases oneL_mem hz with rfl | rfl <;> decide, 5, ?_, by decide⟩
  have := getD_mem (zs := oneL n w) (j := w) (by rw [oneL_len]; exact hw)
  rwa [oneL_get hw, if_pos rfl] at this
theorem oneL_psum {n w : Nat} : ∀ i, i ≤ n → psum (oneL n w) i = if w < i then 5 * ((w : Int) + 1) else 0
  | 0, _ => by simp [psum]
  | i + 1, hi => by
    rw [psum, oneL_psum i (by omega), oneL_get (by omega)]
    by_cases h1 : w < i
    · rw [if_pos h1, if_neg (by omega), if_pos (by omega)]; omega
    · rw [if_neg h1]
      by_cases h2 : w = i
      · subst h2
        rw [if_pos rfl, if_pos (by omega)]; omega
      · rw [if_neg h2, if_neg (by omega)]; omega
theorem sum_take {zs : List Int} (i : Nat) (h : i < zs.length) : sumI (zs.take (i + 1)) = sumI (zs.take i) + zs[i]?.getD 0 := by rw [take_snoc h, sumI_snoc]
theorem oneL_sum {n w : Nat} : ∀ i, i ≤ n → sumI ((oneL n w).take i) = if w < i then 5 else 0
  | 0, _ => by simp [sumI]
  | i + 1, hi => by
    rw [sum_take i (by rw [oneL_len]; omega), oneL_sum i (by omega), oneL_get (by omega)]
    by_cases h1 : w < i
    · rw [if_pos h1, if_neg (by omega), if_pos (by omega)]; omega
    · rw [if_neg h1]
      by_cases h2 : w = i
      · subst h2
        rw [if_pos rfl, if_pos (by omega)]; omega
      · rw [if_neg h2, if_neg (by omega)]; omega
theorem oneL_mean {n w : Nat} (hw : w < n) (hn : n ≤ 60) : Rat.divInt (wsum (oneL n w) (oneL n w).length) (totT (oneL n w)) = Rat.divInt ((w : Int) + 1) 1 := by
  have hm := oneL_may hw hn
  have h1 := (psum_all hm.2.2.2.2.1 (by rw [oneL_len]; exact hn) _ (Nat.le_refl _)).1
  have h2 := oneL_sum (n := n) (w := w) n (Nat.le_refl _)
  rw [List.take_of_length_le (by rw [oneL_len]; exact Nat.le_refl _), if_pos hw] at h2
  rw [h1, totT_sum hm.2.2.2.2.1 (by rw [oneL_len]; omega), h2, oneL_len, oneL_psum n (Nat.le_refl _), if_pos hw, divInt_eq_iff (by decide) (by decide)]
  omega
def halfL (zs : List Int) : List Int := zs.map fun z => z / 2
def twiceL (zs : List Int) : List Int := zs.map fun z => 2 * (z / 2)
theorem halfL_len (zs : List Int) : (halfL zs).length = zs.length := by simp [halfL]
theorem twiceL_len (zs : List Int) : (twiceL zs).length = zs.length := by simp [twiceL]
theorem halfL_get (zs : List Int) (j : Nat) : (halfL zs)[j]?.getD 0 = zs[j]?.getD 0 / 2 := by
  unfold halfL
  rw [List.getElem?_map]
  cases zs[j]? <;> rfl
theorem twiceL_get (zs : List Int) (j : Nat) : (twiceL zs)[j]?.getD 0 = 2 * (zs[j]?.getD 0 / 2) := by
  unfold twiceL
  rw [List.getElem?_map]
  cases zs[j]? <;> rfl
theorem twice_psum (zs : List Int) : ∀ i, psum (twiceL zs) i = 2 * psum (halfL zs) i
  | 0 => by simp [psum]
  | i + 1 => by
    rw [psum, psum, twice_psum zs i, twiceL_get, halfL_get, Int.mul_assoc 2, ← Int.mul_add]
theorem twice_sum : ∀ zs : List Int, sumI (twiceL zs) = 2 * sumI (halfL zs)
  | [] => rfl
  | z :: zs => by
    have ih := twice_sum zs
    unfold twiceL halfL at *
    simp only [List.map, sumI, ih]
    omega
theorem half_in {zs : List Int} (h : ∀ z ∈ zs, 0 ≤ z ∧ z ≤ 16777215) : (∀ z ∈ halfL zs, 0 ≤ z ∧ z ≤ 16777215) ∧ ∀ z ∈ twiceL zs, 0 ≤ z ∧ z ≤ 16777215 := by
  constructor
  · intro z hz
    obtain ⟨y, hy, rfl⟩ := List.mem_map.1 hz
    have := h y hy
    omega
  · intro z hz
    obtain ⟨y, hy, rfl⟩ := List.mem_map.1 hz
    have := h y hy
    omega
theorem half_iff {zs : List Int} (h : ∀ z ∈ zs, 0 ≤ z ∧ z ≤ 16777215) : MayT (halfL zs) 65536 ↔ MayT (twiceL zs) 65536 := by
  have hi := half_in h
  unfold MayT
  rw [halfL_len, twiceL_len]
  constructor
  · rintro ⟨h1, h2, h3, h4, _, z, hz, h0⟩
    obtain ⟨y, hy, rfl⟩ := List.mem_map.1 hz
    exact ⟨h1, h2, h3, h4, hi.2, _, List.mem_map.2 ⟨y, hy, rfl⟩, by omega⟩
  · rintro ⟨h1, h2, h3, h4, _, z, hz, h0⟩
    obtain ⟨y, hy, rfl⟩ := List.mem_map.1 hz
    exact ⟨h1, h2, h3, h4, hi.1, _, List.mem_map.2 ⟨y, hy, rfl⟩, by omega⟩
theorem half_mean {zs : List Int} (h : MayT (halfL zs) 65536) (h2 : MayT (twiceL zs) 65536) (hl : zs.length ≤ 60) : Rat.divInt (wsum (twiceL zs) (twiceL zs).length) (totT (twiceL zs)) = Rat.divInt (wsum (halfL zs) (halfL zs).length) (totT (halfL zs)) := by
  have a1 := (psum_all h.2.2.2.2.1 (by rw [halfL_len]; exact hl) _ (Nat.le_refl _)).1
  have a2 := (psum_all h2.2.2.2.2.1 (by rw [twiceL_len]; exact hl) _ (Nat.le_refl _)).1
  have t1 := (tot_pos h).1
  have t2 := (tot_pos h2).1
  rw [divInt_eq_iff t2 t1, a1, a2, totT_sum h.2.2.2.2.1 (by rw [halfL_len]; omega), totT_sum h2.2.2.2.2.1 (by rw [twiceL_len]; omega), halfL_len, twiceL_len, twice_psum, twice_sum]
  rw [Int.mul_comm 2 (psum _ _), Int.mul_assoc]
end Go.Proofs.YtejocefblpkdjabGreat
