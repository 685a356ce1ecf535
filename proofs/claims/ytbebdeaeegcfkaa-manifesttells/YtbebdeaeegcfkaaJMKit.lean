/-
  Joined: MKit OBytes OLay OWri OPut OPutB MPutA ONext ORead OReadB OGet OGetB MRead MTab.
-/
import Derived.Test.YtbebdeaeegcfkaaJOMem
import Derived.Test.YtbebdeaeegcfkaaJRMulB
import Derived.Test.YtbebdeaeegcfkaaJCTab
import Derived.Deep.RegionLaw
import Derived.KernelRfl
import Derived.Deep.RegionWith
import Derived.OrdersHeld
namespace Go.Proofs.Ytbebdeaeegcfkaa
open Go.RowKit
theorem ext_getD {xs ys : List Int} {n : Nat} (hx : n = xs.length) (hy : n = ys.length) (h : ∀ j, j < n → xs[j]?.getD 0 = ys[j]?.getD 0) : xs = ys := by
  refine List.ext_getElem (by omega) fun j h1 h2 => ?_
  have := h j (by omega)
  rw [List.getElem?_eq_getElem h1, List.getElem?_eq_getElem h2] at this
  exact this
set_option maxRecDepth 100000 in
set_option maxHeartbeats 1000000 in
theorem sameints_any {lo lo' : Nat} {a b : Option Addr} {n m c d : Nat} {xs ys : List Int} {w : World} (X : Intz lo w (.slice a n c) xs) (Y : Intz lo' w (.slice b m d) ys) (hl : n ≤ 17592186044416) :
    Calls Try.prog 42 #[.slice a n c, .slice b m d] w fun e w' => e = .returned (.bool (decide (xs = ys))) ∧ Below w.heap.size w w' := by
  have hx := X.len.1
  have hy := Y.len.1
  obtain ⟨R, hR⟩ : ∃ R, decide (xs = ys) = R := ⟨_, rfl⟩
  rw [hR]
  by_cases hnm : n = m
  · subst hnm
    have HN : Hid (∀ j, j < n → ¬ xs[j]?.getD 0 = ys[j]?.getD 0 → R = false) := fun j _ h => by rw [← hR, decide_eq_false (fun e => h (by rw [e]))]
    have HY : Hid ((∀ j, j < n → xs[j]?.getD 0 = ys[j]?.getD 0) → R = true) := fun h => by rw [← hR, decide_eq_true (ext_getD hx hy h)]
    have hne : ((n : Int) != (n : Int)) = false := by simp
    clear hR hx hy
    go_enter Try.func42, Try.ntmps42
    go_wp2
    go_loopw [5] (fun cnt wr => ∃ (k : Nat), k ≤ n ∧ cnt = .int .i64 k ∧ Below w.heap.size w wr ∧ Hid (∀ j, j < k → xs[j]?.getD 0 = ys[j]?.getD 0)) (fun c _ => n + 1 - (intOf c).toNat)
    case atStart => exact ⟨0, Nat.zero_le _, rfl, Below.refl _ _, fun j h => absurd h (Nat.not_lt_zero _)⟩
    case round =>
      obtain ⟨k, hk, rfl, hbr, I⟩ := hrel
      by_cases hkn : k < n
      · have hki : (k : Int) < (n : Int) := by omega
        obtain ⟨b1, o1, rfl, _, _⟩ := X.row (by omega)
        obtain ⟨b2, o2, rfl, _, _⟩ := Y.row (by omega)
        have h1 := ((X.below hbr).cell (j := k) (by omega)).1
        have h2 := ((Y.below hbr).cell (j := k) (by omega)).1
        have HK := hide (fun h => HN.out k hkn h)
        have HJ : Hid (xs[k]?.getD 0 = ys[k]?.getD 0 → ∀ j, j < k + 1 → xs[j]?.getD 0 = ys[j]?.getD 0) := fun h j hj => by
          by_cases e : j = k
          · subst e; exact h
          · exact I.out j (by omega)
        obtain ⟨x, hx⟩ : ∃ x, xs[k]?.getD 0 = x := ⟨_, rfl⟩
        obtain ⟨y, hy⟩ : ∃ y, ys[k]?.getD 0 = y := ⟨_, rfl⟩
        rw [hx] at h1 HK HJ
        rw [hy] at h2 HK HJ
        clear hx hy I
        by_cases hxy : x = y
        · subst hxy
          have hne : (x != x) = false := by simp
          go_wp2_with fail
          go_quiet (fail)
          go_wp2
          exact ⟨⟨k + 1, by omega, by go_num, Below.drewN' hbr _, HJ.out (by first | rfl | trivial)⟩, by simp [intOf]; omega⟩
        · obtain rfl := HK.out hxy
          have hne : (x != y) = true := by simpa using hxy
          clear hxy
          go_wp2_with fail
          go_quiet (fail)
          go_wp2
          go_ret
          exact ⟨rfl, Below.drewN' hbr _⟩
      · obtain rfl : k = n := by omega
        obtain rfl := HY.out (fun j hj => I.out j hj)
        go_wp2
        go_ret
        exact ⟨rfl, hbr⟩
  · obtain rfl : false = R := by rw [← hR, decide_eq_false (fun e => hnm (by rw [hx, hy, e]))]
    have hne : ((n : Int) != (m : Int)) = true := by simp; omega
    clear hnm hR hx hy
    go_enter Try.func42, Try.ntmps42
    go_wp2
    go_ret
    exact ⟨rfl, Below.refl _ _⟩
theorem appendi_far {lo : Nat} {a : Option Addr} {cap : Nat} {zs : List Int} {w : World} (h : Intz lo w (.slice a zs.length cap) zs) (hl : zs.length ≤ 17592186044416) :
    ∃ a' cap' w', (Builtin.append_ #[22, 22] 22 #[.slice (some ⟨w.heap.size, 0, none⟩) 0 0, .slice a zs.length cap]).run Try.prog (w.alloc (.cells #[] 3)) = .ok (.slice a' zs.length cap') w' ∧ Intz w.heap.size w' (.slice a' zs.length cap') zs ∧ Below w.heap.size w w' := by
  have hb : Below w.heap.size w (w.alloc (.cells #[] 3)) := (Below.refl _ _).alloc (Nat.le_refl _) _
  by_cases hz : zs = []
  · subst hz
    exact ⟨_, _, _, appendi_none _ 0 0 (Nat.le_refl _) a cap _ _, Intz.empty _ _ _ _, hb⟩
  · obtain ⟨i0, hi, hz0, hz1, hz2⟩ := info_parts infoI64
    have h' := h.below hb
    obtain ⟨b, off, rfl, e2, e3⟩ := h.row (List.length_pos_iff.2 hz)
    have h0 : (w.alloc (.cells #[] 3)).ownsRow w.heap.size 3 1 (.slice (some ⟨w.heap.size, 0, none⟩) 0 0) 0 [] := ⟨rfl, .inr ⟨_, 0, #[], rfl, Nat.le_refl _, World.alloc_heap_new w _, Nat.le_refl _, by unfold maxLen; omega, rfl, rfl⟩⟩
    obtain ⟨v', w', hr, hown, hg, _⟩ := run_append_own (P := Try.prog) (w.alloc (.cells #[] 3)) w.heap.size 22 22 3 i0 (.int .i64 0) 1 8 Try.underlying22 hi hz0 hz1 hz2 rfl (by decide)
      _ 0 [] h0 ⟨b, off, none⟩ zs.length cap (zs.map (Value.int .i64)) (by simp)
      (fun j u hj => by
        rw [List.getElem?_map] at hj
        obtain ⟨z, hz', rfl⟩ := Option.map_eq_some_iff.1 hj
        have hjl : j < zs.length := (List.getElem?_eq_some_iff.1 hz').1
        have := (h'.cell (j := j) hjl).1
        rw [hz'] at this
        rw [Addr.add_lit]
        exact this)
      (fun u hu => by obtain ⟨z, _, rfl⟩ := List.mem_map.1 hu; rfl) (by unfold maxLen; omega) (by omega) (by simp)
    have ho : OwnI w.heap.size w' v' zs := by
      refine ⟨?_, h.words⟩
      rw [Nat.zero_add, List.nil_append] at hown
      exact hown
    have hbw : Below w.heap.size w w' := hb.grown hg (by simp) (fun k hk => (h0.lt k hk).1)
    obtain ⟨a', cap', rfl, hs⟩ := owni_seg ho
    exact ⟨a', cap', w', hr, hs, hbw⟩
set_option maxRecDepth 100000 in
set_option maxHeartbeats 400000 in
theorem copyi_far {lo : Nat} {a : Option Addr} {n cap : Nat} {zs : List Int} {w : World} (h : Intz lo w (.slice a n cap) zs) (hl : n ≤ 17592186044416) :
    Calls Try.prog 29 #[.slice a n cap] w fun e w' => ∃ a' cap', e = .returned (.slice a' n cap') ∧ Intz w.heap.size w' (.slice a' n cap') zs ∧ Below w.heap.size w w' := by
  obtain ⟨rfl, _⟩ := h.len
  obtain ⟨a', cap', w', hap, hs, hb⟩ := appendi_far h hl
  go_enter Try.func29, Try.ntmps29
  go_wp2_with (at_builtin; refine Lib.wpList_append_run _ rfl _ _ _ _ rfl _ _ rfl rfl _ _ hap ?_)
  go_ret
  exact ⟨_, _, rfl, hs, hb⟩
def sameMV (p q : MV) : Bool := decide (p.size = q.size) && (decide (p.sym = q.sym) && (decide (p.k = q.k) && (decide (p.seed = q.seed) && decide (p.ts = q.ts))))
theorem sameMV_iff (p q : MV) : sameMV p q = true ↔ p = q := by
  obtain ⟨z, y, k, s, ts⟩ := p
  obtain ⟨z', y', k', s', ts'⟩ := q
  simp [sameMV]
theorem sameMV_self (p : MV) : sameMV p p = true := (sameMV_iff p p).2 rfl
set_option maxRecDepth 100000 in
set_option maxHeartbeats 2000000 in
theorem samem_any (z y k s z' y' k' s' : Int) (a a' : Option Addr) (n c n' c' lo lo' : Nat) (xs ys : List Int) (w : World) (X : Intz lo w (.slice a n c) xs) (Y : Intz lo' w (.slice a' n' c') ys) (hl : n ≤ 17592186044416) :
    Calls Try.prog 21 #[.agg #[.int .i64 z, .int .i64 y, .int .i64 k, .int .i64 s, .slice a n c], .agg #[.int .i64 z', .int .i64 y', .int .i64 k', .int .i64 s', .slice a' n' c']] w fun e w' => e = .returned (.bool (sameMV ⟨z, y, k, s, xs⟩ ⟨z', y', k', s', ys⟩)) ∧ Below w.heap.size w w' := by
  have Q1 := below_new w (.cells #[.int .i64 z, .int .i64 y, .int .i64 k, .int .i64 s, .slice a n c] 24)
  have Q2 := below_new (w.alloc (.cells #[.int .i64 z, .int .i64 y, .int .i64 k, .int .i64 s, .slice a n c] 24)) (.cells #[.int .i64 z', .int .i64 y', .int .i64 k', .int .i64 s', .slice a' n' c'] 24)
  have QQ := Q1.trans (Q2.mono Q1.size)
  have HB := hide QQ
  have hsb := sameints_any (X.below QQ) (Y.below QQ) hl
  unfold sameMV
  dsimp only
  clear Q1 Q2 QQ X Y
  by_cases hz : z = z'
  · subst hz
    by_cases hy : y = y'
    · subst hy
      by_cases hk : k = k'
      · subst hk
        by_cases hs : s = s'
        · subst hs
          obtain ⟨d, hd⟩ : ∃ d, decide (xs = ys) = d := ⟨_, rfl⟩
          rw [hd] at hsb ⊢
          clear hd
          go_enter Try.func21, Try.ntmps21
          go_wp2_with fail
          refine hsb.mono ?_
          rintro e w1 ⟨rfl, b1⟩
          have HB1 := hide (HB.out.trans (b1.mono HB.out.size))
          clear hsb b1
          go_wp2
          go_ret
          exact ⟨congrArg (fun z => Ending.returned (.bool z)) (by simp), HB1.out⟩
        · have hbr : (s == s') = false := beq_eq_false_iff_ne.2 hs
          have hdr : decide (s = s') = false := decide_eq_false hs
          rw [hdr]
          clear hdr hs
          go_enter Try.func21, Try.ntmps21
          go_wp2
          go_ret
          exact ⟨congrArg (fun z => Ending.returned (.bool z)) (by simp), HB.out⟩
      · have hbr : (k == k') = false := beq_eq_false_iff_ne.2 hk
        have hdr : decide (k = k') = false := decide_eq_false hk
        rw [hdr]
        clear hdr hk
        go_enter Try.func21, Try.ntmps21
        go_wp2
        go_ret
        exact ⟨congrArg (fun z => Ending.returned (.bool z)) (by simp), HB.out⟩
    · have hbr : (y == y') = false := beq_eq_false_iff_ne.2 hy
      have hdr : decide (y = y') = false := decide_eq_false hy
      rw [hdr]
      clear hdr hy
      go_enter Try.func21, Try.ntmps21
      go_wp2
      go_ret
      exact ⟨congrArg (fun z => Ending.returned (.bool z)) (by simp), HB.out⟩
  · have hbr : (z == z') = false := beq_eq_false_iff_ne.2 hz
    have hdr : decide (z = z') = false := decide_eq_false hz
    rw [hdr]
    clear hdr hz
    go_enter Try.func21, Try.ntmps21
    go_wp2
    go_ret
    exact ⟨congrArg (fun z => Ending.returned (.bool z)) (by simp), HB.out⟩
set_option maxRecDepth 100000 in
set_option maxHeartbeats 2000000 in
theorem copym_any (z y k s : Int) (a : Option Addr) (n c lo : Nat) (xs : List Int) (w : World) (X : Intz lo w (.slice a n c) xs) (hl : n ≤ 17592186044416) :
    Calls Try.prog 10 #[.agg #[.int .i64 z, .int .i64 y, .int .i64 k, .int .i64 s, .slice a n c]] w fun e w' => ∃ (a' : Option Addr) (c' : Nat), e = .returned (.agg #[.int .i64 z, .int .i64 y, .int .i64 k, .int .i64 s, .slice a' n c']) ∧ Intz w.heap.size w' (.slice a' n c') xs ∧ Below w.heap.size w w' := by
  have Q1 := below_new w (.cells #[.int .i64 z, .int .i64 y, .int .i64 k, .int .i64 s, .slice a n c] 24)
  have R1 := Box.new w (.cells #[.int .i64 z, .int .i64 y, .int .i64 k, .int .i64 s, .slice a n c] 24)
  have Q2 := below_new (w.alloc (.cells #[.int .i64 z, .int .i64 y, .int .i64 k, .int .i64 s, .slice a n c] 24)) (.cells #[.int .i64 0, .int .i64 0, .int .i64 0, .int .i64 0, .slice none 0 0] 24)
  have R2 := Box.put (w := w.alloc (.cells #[.int .i64 z, .int .i64 y, .int .i64 k, .int .i64 s, .slice a n c] 24)) (k := w.heap.size + 1) (.cells #[.int .i64 0, .int .i64 0, .int .i64 0, .int .i64 0, .slice none 0 0] 24) (by simp)
  have QQ := Q1.trans (Q2.mono Q1.size)
  have hcp := copyi_far (X.below QQ) hl
  have HB := hide QQ
  have HR1 := hide (R1.below Q2)
  have HR2 := hide R2
  clear Q1 R1 Q2 R2 QQ X
  go_enter Try.func10, Try.ntmps10
  go_wp2_with fail
  refine hcp.mono ?_
  rintro e w1 ⟨a', c', rfl, Y, b1⟩
  have A1 := HR1.out.below b1
  have A2 := HR2.out.below b1
  obtain ⟨c0, c1, c2, c3, c4⟩ := five_of A1
  obtain ⟨f0, f1, f2, f3, f4⟩ := five_thaw A1
  have V1 := A1.put1 4 (.slice a' n c')
  have V2 := A2.aside (g := w.heap.size) 4 (.slice a' n c') (by omega)
  obtain ⟨d0, d1, d2, d3, d4⟩ := five_of (u0 := .int .i64 z) (u1 := .int .i64 y) (u2 := .int .i64 k) (u3 := .int .i64 s) (u4 := .slice a' n c') V1
  have V3 := V2.setRow #[.int .i64 z, .int .i64 y, .int .i64 k, .int .i64 s, .slice a' n c']
  have hbw : Below w.heap.size w ((w1.setCell ⟨w.heap.size, 4, none⟩ (.slice a' n c')).setRow (w.heap.size + 1) #[.int .i64 z, .int .i64 y, .int .i64 k, .int .i64 s, .slice a' n c']) :=
    below_setRow ((HB.out.trans (b1.mono HB.out.size)).setCell (p := ⟨w.heap.size, 4, none⟩) (Nat.le_refl _) _) (Nat.le_succ _) _
  have hsz : w.heap.size + 2 = ((w.alloc (.cells #[.int .i64 z, .int .i64 y, .int .i64 k, .int .i64 s, .slice a n c] 24)).alloc (.cells #[.int .i64 0, .int .i64 0, .int .i64 0, .int .i64 0, .slice none 0 0] 24)).heap.size := by simp
  rw [← hsz] at Y
  have hY := (Y.above (W' := (w1.setCell ⟨w.heap.size, 4, none⟩ (.slice a' n c')).setRow (w.heap.size + 1) #[.int .i64 z, .int .i64 y, .int .i64 k, .int .i64 s, .slice a' n c']) (fun j hj => (setRow_other _ _ _ _ (by omega)).trans (heap_setCell_other _ _ _ _ (by show j ≠ w.heap.size; omega))) (by simp [World.setCell])).mono (lo' := w.heap.size) (by omega)
  have HY := hide hY
  have HBW := hide hbw
  have HV3 := hide V3
  have HV2 := hide V2
  clear hcp Y b1 HB HR1 HR2 A1 A2 V1 V2 V3 hbw hY hsz
  go_wp2_with (refine wpList_store_row rfl 24 (.tmp 2) (.tmp 7) rfl (w.heap.size + 1) #[.int .i64 z, .int .i64 y, .int .i64 k, .int .i64 s, .slice a' n c'] rfl rfl 24 _ HV2.out.what (by kernel_rfl) rfl (by kernel_rfl) ?_)
  obtain ⟨g0, g1, g2, g3, g4⟩ := five_of HV3.out
  refine bodyPost_ret (v := .agg #[.int .i64 z, .int .i64 y, .int .i64 k, .int .i64 s, .slice a' n c']) (by simp [results, Try.f10, go_sem, g0, g1, g2, g3, g4]) rfl ?_
  exact ⟨a', c', rfl, HY.out, HBW.out⟩
set_option maxRecDepth 100000 in
set_option maxHeartbeats 1000000 in
theorem oisw_any (k : Int) (w : World) : Calls Try.prog 51 #[.int .i64 k] w fun e w' => e = .returned (.bool (decide (IsW k))) ∧ w' = w := by
  by_cases h1 : k = 1
  · subst h1
    go_enter Try.func51, Try.ntmps51
    go_wp2
    go_ret
    exact ⟨rfl, rfl⟩
  · by_cases h2 : k = 2
    · subst h2
      go_enter Try.func51, Try.ntmps51
      go_wp2
      go_ret
      exact ⟨rfl, rfl⟩
    · by_cases h4 : k = 4
      · subst h4
        go_enter Try.func51, Try.ntmps51
        go_wp2
        go_ret
        exact ⟨rfl, rfl⟩
      · by_cases h8 : k = 8
        · subst h8
          go_enter Try.func51, Try.ntmps51
          go_wp2
          go_ret
          exact ⟨rfl, rfl⟩
        · have hd : decide (IsW k) = false := decide_eq_false (by unfold IsW; omega)
          rw [hd]
          clear hd
          go_enter Try.func51, Try.ntmps51
          go_wp2
          go_ret
          exact ⟨rfl, rfl⟩
def eig (f : Nat → Nat) : Array Value := ((List.range 8).map fun k => Value.int .u8 (f k : Nat)).toArray
theorem eig_size (f : Nat → Nat) : (eig f).size = 8 := by simp [eig]
theorem eig_get {f : Nat → Nat} {k : Nat} (h : k < 8) : (eig f)[k]? = some (.int .u8 (f k : Nat)) := by
  unfold eig
  rw [List.getElem?_toArray, List.getElem?_map, List.getElem?_range h]
  rfl
theorem eig_ext {f g : Nat → Nat} (h : ∀ k, k < 8 → f k = g k) : eig f = eig g := by
  unfold eig
  congr 1
  exact List.map_congr_left fun k hk => by rw [h k (List.mem_range.1 hk)]
theorem eig_set (f : Nat → Nat) {k : Nat} (hk : k < 8) (x : Nat) : (eig f).setIfInBounds k (.int .u8 (x : Nat)) = eig (setf f k x) := by
  refine Array.ext_getElem? fun j => ?_
  rw [Array.getElem?_setIfInBounds]
  by_cases hj : j < 8
  · rw [eig_get (f := setf f k x) hj]
    by_cases e : k = j
    · subst e
      rw [if_pos rfl, if_pos (by rw [eig_size]; exact hj), show setf f k x k = x from if_pos rfl]
    · rw [if_neg e, eig_get (f := f) hj, show setf f k x j = f j from if_neg (fun e' => e e'.symm)]
  · have h1 : (eig f)[j]? = none := Array.getElem?_eq_none (by rw [eig_size]; omega)
    have h2 : (eig (setf f k x))[j]? = none := Array.getElem?_eq_none (by rw [eig_size]; omega)
    rw [h1, h2, if_neg (by omega)]
theorem eig_one (f : Nat → Nat) : (eig f).all (·.oneCell') = true := by
  refine Array.all_eq_true_iff_forall_mem.2 fun v hv => ?_
  simp only [eig, List.mem_toArray, List.mem_map] at hv
  obtain ⟨k, _, rfl⟩ := hv
  rfl
theorem eig_info (f : Nat → Nat) : (Try.prog.info? 82).map (·.size) = some (eig f).size := by rw [eig_size]; kernel_rfl
def Eig (W : World) (g : Nat) (f : Nat → Nat) : Prop := Box W g (.cells (eig f) 82)
theorem Eig.cell {W : World} {g k : Nat} {f : Nat → Nat} (h : Eig W g f) (hk : k < 8) : W.cell? ⟨g, k, none⟩ = some (.int .u8 (f k : Nat)) := (cell_of_row W g k _ _ _ h.what).trans (eig_get hk)
theorem Eig.thaw {W : World} {g k : Nat} {f : Nat → Nat} (h : Eig W g f) : W.frozen? ⟨g, k, none⟩ = false := frozen_of_row W g k _ _ h.what
theorem Eig.set {W : World} {g k : Nat} {f : Nat → Nat} (h : Eig W g f) (hk : k < 8) (x : Nat) : Eig (W.setCell ⟨g, k, none⟩ (.int .u8 (x : Nat))) g (setf f k x) :=
  ⟨by simpa [World.setCell] using h.lt, by rw [← eig_set f hk]; exact heap_setCell_same W g k _ _ _ h.what⟩
def hik (x k : Nat) : Nat := x / 2 ^ ((7 - k) * 8) % 256
theorem hik_int (x k : Nat) : (x : Int) / 2 ^ ((7 - k) * 8) % 256 = (hik x k : Nat) := by unfold hik; simp
def hfill (x k : Nat) : Nat → Nat := fun j => if j < k then hik x j else 0
theorem hfill_set (x k : Nat) : setf (hfill x k) k (hik x k) = hfill x (k + 1) := by
  funext j
  unfold setf hfill
  by_cases e : j = k
  · subst e
    rw [if_pos rfl, if_pos (by omega)]
  · rw [if_neg e]
    by_cases h : j < k
    · rw [if_pos h, if_pos (by omega)]
    · rw [if_neg h, if_neg (by omega)]
theorem hfill_all (x : Nat) : eig (hfill x 8) = eig (hik x) := eig_ext fun k hk => by unfold hfill; rw [if_pos hk]
theorem results_eig {fn : Func} {p : Tmp} (h : fn.results = #[.cell p 82]) {tmps : Array Value} {w : World} {g : Nat} {f : Nat → Nat} (hp : tmps.getD p undef = .pointer (some ⟨g, 0, none⟩)) (T : Eig w g f) :
    (results fn tmps).run Try.prog w = .ok (.agg (eig f)) w := results_cell_row h tmps w g _ _ _ _ hp T.what Try.underlying82 rfl (eig_info f)
def z8 : Obj := .cells #[.int .u8 0, .int .u8 0, .int .u8 0, .int .u8 0, .int .u8 0, .int .u8 0, .int .u8 0, .int .u8 0] 82
set_option maxRecDepth 100000 in
set_option maxHeartbeats 2000000 in
theorem ohigh_any (x : Nat) (hx : x < 9223372036854775808) (w : World) : Calls Try.prog 53 #[.int .i64 x] w fun e w' => e = .returned (.agg (eig (hik x))) ∧ Below w.heap.size w w' := by
  have b1 := below_new w z8
  have b2 := below_new (w.alloc z8) z8
  have HB := hide (b1.trans (b2.mono b1.size))
  have HT : Hid (Eig ((w.alloc z8).alloc z8) (w.heap.size + 1) (hfill x 0)) := by
    have e : eig (hfill x 0) = #[.int .u8 0, .int .u8 0, .int .u8 0, .int .u8 0, .int .u8 0, .int .u8 0, .int .u8 0, .int .u8 0] := by
      have : eig (hfill x 0) = eig (fun _ => 0) := eig_ext fun k _ => by unfold hfill; rw [if_neg (by omega)]
      rw [this]; rfl
    show Box _ _ (.cells (eig (hfill x 0)) 82)
    rw [e]
    exact Box.put z8 (by simp)
  have HR := hide ((Box.new w z8).below b2)
  have HX := hide hx
  clear b1 b2 hx
  unfold z8 at HB HT HR
  go_enter Try.func53, Try.ntmps53
  go_wp2
  obtain ⟨g, hg⟩ : ∃ g, w.heap.size = g := ⟨_, rfl⟩
  rw [hg] at HB HT HR ⊢
  have HG := hide hg
  clear hg
  go_loopw [5] (fun i wr => ∃ k : Nat, k ≤ 8 ∧ i = .int .i64 k ∧ Hid (Eig wr (g + 1) (hfill x k)) ∧ Hid (Box wr g (.cells #[.int .u8 0, .int .u8 0, .int .u8 0, .int .u8 0, .int .u8 0, .int .u8 0, .int .u8 0, .int .u8 0] 82)) ∧ Hid (Below g w wr)) (fun i _ => 8 - (intOf i).toNat)
  case atStart => exact ⟨0, Nat.zero_le _, rfl, HT, HR, HB⟩
  case round =>
    obtain ⟨k, hk, rfl, HT, HR, HB⟩ := hrel
    by_cases hkl : k < 8
    · have hki : (k : Int) < 8 := by omega
      have c1 := HT.out.cell hkl
      have f1 := HT.out.thaw (k := k)
      have HT1 := hide (HT.out.set hkl (hik x k))
      have HR1 := hide (HR.out.cell_other (g := g + 1) (by omega) k (.int .u8 (hik x k : Nat)))
      have HB1 := hide (HB.out.setCell (p := ⟨g + 1, k, none⟩) (Nat.le_succ g) (.int .u8 (hik x k : Nat)))
      have hq : (7 : Int) - (k : Int) = ((7 - k : Nat) : Int) := by omega
      clear HT HR HB
      go_wp2
      rw [hik_int]
      exact ⟨⟨k + 1, by omega, by go_num, (by have := HT1.out; rwa [hfill_set] at this), HR1, HB1⟩, by simp [intOf]; omega⟩
    · obtain rfl : k = 8 := by omega
      have hT : Eig wr (g + 1) (hik x) := by
        have : Box wr (g + 1) (.cells (eig (hfill x 8)) 82) := HT.out
        rwa [hfill_all] at this
      have HT1 := hide hT
      have HT2 : Hid (Eig (wr.setRow g (eig (hik x))) g (hik x)) := HR.out.setRow (eig (hik x))
      have HB2 := hide (below_setRow HB.out (Nat.le_refl g) (eig (hik x)))
      have HR1 := hide HR.out
      clear hT HT HB
      go_wp2_with (first | (refine wpList_load_row rfl 82 (.tmp 3) rfl (g + 1) rfl 82 (eig (hik x)) (0, 0) _ HT1.out.what Try.underlying82 rfl (eig_info _) ?_) | (refine wpList_store_row rfl 82 (.tmp 2) (.tmp 17) rfl g (eig (hik x)) rfl rfl 82 _ HR1.out.what (eig_info _) (by rw [eig_size]; rfl) (eig_one _) ?_))
      refine bodyPost_ret (v := .agg (eig (hik x))) (results_eig rfl rfl HT2.out) rfl ?_
      exact ⟨rfl, by rw [HG.out]; exact HB2.out⟩
theorem eig_cell {x k j : Nat} (hk : k ≤ 8) (hj : j < k) : (eig (hik x))[8 - k + j]? = some (.int .u8 ((be k x)[j]?.getD 0)) := by
  rw [eig_get (by omega)]
  unfold hik be
  rw [List.getElem?_map, List.getElem?_range hj]
  simp only [Option.map_some, Option.getD_some]
  rw [show (7 - (8 - k + j)) * 8 = 8 * (k - 1 - j) by omega, Nat.pow_mul]
theorem or_hi (z x : Nat) (hz : z < 72057594037927936) (hx : x < 256) : bits .or .u64 ((z : Int) * 256) (x : Int) = ((256 * z + x : Nat) : Int) := by
  have e : (z : Int) * 256 = ((256 * z : Nat) : Int) := by omega
  rw [e, bits_or_u64_nat (256 * z) x (by omega) (by omega)]
  have h3 : 2 ^ 8 * z + x = 2 ^ 8 * z ||| x := Nat.two_pow_add_eq_or_of_lt (by omega) z
  rw [← h3]
theorem nb_take {zs : List Int} {k : Nat} (hk : k < zs.length) : nb (zs.take (k + 1)) = 256 * nb (zs.take k) + (zs[k]?.getD 0).toNat := by
  rw [List.take_add_one, List.getElem?_eq_getElem hk, Option.toList_some, nb_snoc]
  rfl
theorem nb_small {zs : List Int} (h : Octs zs) {k : Nat} (hk : k ≤ 7) : nb (zs.take k) < 72057594037927936 := by
  have h1 := nb_lt _ (h.take k)
  have h2 : 256 ^ (zs.take k).length ≤ 256 ^ 7 := Nat.pow_le_pow_right (by decide) (by rw [List.length_take]; omega)
  have h3 : 256 ^ 7 = 72057594037927936 := by decide
  omega
set_option maxRecDepth 100000 in
set_option maxHeartbeats 2000000 in
theorem ovalue_any {lo : Nat} {a : Option Addr} {n c : Nat} {zs : List Int} {w : World} (X : Byt lo w (.slice a n c) zs) (hl : n ≤ 8) :
    Calls Try.prog 62 #[.slice a n c] w fun e w' => e = .returned (.int .u64 (nb zs : Nat)) ∧ w' = w := by
  have HN := hide X.len.1
  have HX := hide X
  clear X
  go_enter Try.func62, Try.ntmps62
  go_wp2
  go_loopw [3, 8] (fun r i wr => ∃ k : Nat, k ≤ n ∧ r = .int .u64 (nb (zs.take k) : Nat) ∧ i = .int .i64 k ∧ wr = w) (fun _ i _ => n - (intOf i).toNat)
  case atStart => exact ⟨0, Nat.zero_le _, rfl, rfl, rfl⟩
  case round =>
    obtain ⟨k, hk, rfl, rfl, rfl⟩ := hrel
    by_cases hkn : k < n
    · have hki : (k : Int) < (n : Int) := by omega
      obtain ⟨q, o, rfl, _, _⟩ := HX.out.row (by omega)
      have c1 := (HX.out.cell hkn).1
      have ho := HX.out.words.getD k
      have hz := nb_small HX.out.words (k := k) (by omega)
      have HT := hide (nb_take (zs := zs) (k := k) (by have := HN.out; omega))
      generalize nb (zs.take k) = z at *
      generalize zs[k]?.getD 0 = x at *
      obtain ⟨y, rfl⟩ := Int.eq_ofNat_of_zero_le ho.1
      have hy : y < 256 := by omega
      have HO := hide (or_hi z y hz hy)
      clear hy
      go_wp2
      rw [HO.out]
      exact ⟨⟨k + 1, by omega, by rw [HT.out]; rfl, by go_num, trivial⟩, by simp [intOf]; omega⟩
    · obtain rfl : k = n := by omega
      have hr : nb (zs.take k) = nb zs := by rw [HN.out, List.take_length]
      rw [hr]
      clear hr
      go_wp2
      go_ret
      exact ⟨rfl, rfl⟩
def Wri (W : World) (p c most : Nat) : Prop := Box W p (.cells #[.pointer (some ⟨c, 0, none⟩), .int .i64 (most : Nat)] 78)
def fz : Obj := .cells #[.int .i64 0, .int .i64 0] 71
set_option maxRecDepth 100000 in
set_option maxHeartbeats 2000000 in
theorem olay_long {p c most n m d : Nat} {b : Option Addr} {sv : Value} {er fa : Int} {w : World} (P : Wri w p c most) (C : Cur w c sv n er fa) (hm : most < n + m) (hn : n ≤ most) (hmost : most ≤ 100000) :
    Calls Try.prog 54 #[.pointer (some ⟨p, 0, none⟩), .slice b m d] w fun e w' => e = .returned (.agg #[.int .i64 4, .int .i64 (n : Nat)]) ∧ Below w.heap.size w w' := by
  have B1 := below_new w fz
  have R1 := Box.new w fz
  have P1 := P.below B1
  have C1 := Box.below C B1
  have hh := ohere_any (w := (w.alloc fz).drew) (c := c) (sv := sv) (a := n) (x := er) (y := fa) C1.drew 4
  have HB := hide B1
  have HR := hide R1
  obtain ⟨p0, p1, _, _⟩ := P1.two
  obtain ⟨c0, c1, c2, c3, _, _, _, _⟩ := four_cells C1
  have hw : IntKind.i64.wrap ((most : Int) - (n : Int)) = (most : Int) - (n : Int) := by rw [IntKind.wrap_i64]; omega
  have hl : (most : Int) - (n : Int) < (m : Int) := by omega
  clear B1 R1 P1 C1 P C hm hn hmost
  unfold fz at hh HB HR p0 p1 c0 c1 c2 c3
  go_enter Try.func54, Try.ntmps54
  go_wp2_with fail
  go_region
  clear p1 c1 c2 c3
  go_wp2_with fail
  refine hh.mono ?_
  rintro e w2 ⟨rfl, B2⟩
  replace B2 : Below (w.alloc (.cells #[.int .i64 0, .int .i64 0] 71)).heap.size (w.alloc (.cells #[.int .i64 0, .int .i64 0] 71)) w2 := (Below.refl _ _).drew.trans B2
  have R2 := HR.out.below B2
  obtain ⟨r0, r1, f0, f1⟩ := R2.two
  have HB2 := hide (HB.out.trans (B2.mono HB.out.size))
  have HBZ := hide ((HB2.out.setCell (p := ⟨w.heap.size, 0, none⟩) (Nat.le_refl _) (.int .i64 4)).setCell (p := ⟨w.heap.size, 1, none⟩) (Nat.le_refl _) (.int .i64 (n : Nat)))
  have R3 := (R2.set2 (.int .i64 4) (.int .i64 (n : Nat))).two
  clear hh R2 B2 p0 c0
  go_wp2
  obtain ⟨g0, g1, _, _⟩ := R3
  refine bodyPost_ret (v := .agg #[.int .i64 4, .int .i64 (n : Nat)]) (by simp [results, Try.f54, go_sem, g0, g1]) rfl ?_
  exact ⟨rfl, HBZ.out⟩
theorem step_app {ops : Array Oper} {o : Oper} {a : Act} {W : World} {K : Act → World → Prop} {Q : Exit → Act → World → Prop} {E : Prop} (hgd : o.guard = none) (s x : Operand) (t tn : TypeId)
    (ho : o.op = .call { callee := .builtin .append, args := #[s, x], argTypes := #[t, tn] }) (vs vx : Value) (hs : a.eval s = vs) (hx : a.eval x = vx) (v' : Value) (w' : World) (hr : (Builtin.append_ #[t, tn] o.type #[vs, vx]).run Try.prog W = .ok v' w')
    (hK : K (a.put o.dst v') w') : if Region.wanted o (yielded ops a.tmps) = true then Oper.wp Try.prog o a W K Q else E := by
  have hw : Region.wanted o (yielded ops a.tmps) = true := by simp [Region.wanted, hgd]
  rw [if_pos hw]
  exact Lib.wp_append_run W s x t tn ho _ _ hs hx _ _ hr hK
def rowOf (a : Option Addr) : Nat → Prop := fun k => (Value.slice a 0 0).ownBlock = some k
theorem rowOf_eq (a : Option Addr) (n c : Nat) : (Value.slice a n c).ownBlock = (Value.slice a 0 0).ownBlock := by cases a <;> rfl
def Went (W : World) (a a' : Option Addr) : Prop := ∀ k, rowOf a' k → rowOf a k ∨ W.heap.size ≤ k
set_option maxRecDepth 100000 in
set_option maxHeartbeats 4000000 in
theorem olay_some {lo lo' p c most n cap m d : Nat} {a b : Option Addr} {zs ys : List Int} {er fa : Int} {w : World} (P : Wri w p c most) (C : Cur w c (.slice a n cap) n er fa) (O : OwnB lo w (.slice a n cap) zs) (Y : Byt lo' w (.slice b m d) ys) (hm : n + m ≤ most) (hmost : most ≤ 100000) (hlo : lo ≤ w.heap.size) :
    Calls Try.prog 54 #[.pointer (some ⟨p, 0, none⟩), .slice b m d] w fun e w' => ∃ (a' : Option Addr) (cap' : Nat), e = .returned (.agg #[.int .i64 0, .int .i64 0]) ∧ Cur w' c (.slice a' (n + m) cap') (n + m : Nat) er fa ∧ OwnB lo w' (.slice a' (n + m) cap') (zs ++ ys) ∧ Spared (fun k => k = c ∨ rowOf a k) w w' ∧ Went w a a' := by
  have B1 := below_new w fz
  have R1 := Box.new w fz
  have P1 := P.below B1
  have C1 := Box.below C B1
  have O1 : OwnB lo (w.alloc fz).drew.drew (.slice a n cap) zs := O.below (show Below w.heap.size w (w.alloc fz).drew.drew from B1.drew.drew)
  have Y1 : Byt lo' (w.alloc fz).drew.drew (.slice b m d) ys := Y.below (show Below w.heap.size w (w.alloc fz).drew.drew from B1.drew.drew)
  obtain ⟨a', cap', w2, hap, O2, S2', hat⟩ := ownb_on O1 Y1 (by omega) (Nat.le_trans hlo B1.size)
  have S2 : Spared (fun k => (Value.slice a n cap).ownBlock = some k) (w.alloc fz) w2 := ((Spared.refl _ _).drew.drew).next S2' (fun _ _ h => h)
  have hac : ∀ k, rowOf a k → k ≠ c := fun k hk => O.apart C (by decide) (by rw [rowOf_eq]; exact hk)
  have hal : ∀ k, rowOf a k → k < w.heap.size := fun k hk => (O.lt (g := k) (by rw [rowOf_eq]; exact hk)).2
  have hrow : ∀ (n' c' : Nat) k, (Value.slice a n' c').ownBlock = some k → rowOf a k := fun n' c' k hk => by rw [rowOf_eq] at hk; exact hk
  have hcl := C.lt
  have hpc : p ≠ c := Box.apart P C (by decide)
  have hpa : ∀ k, rowOf a k → k ≠ p := fun k hk => O.apart P (by decide) (by rw [rowOf_eq]; exact hk)
  have hpl := P.lt
  have R2 := R1.spared S2 (fun hk => by have := hal _ (hrow _ _ _ hk); omega)
  have C2 : Cur w2 c (.slice a n cap) n er fa := Box.spared C1 S2 (fun hk => hac _ (hrow _ _ _ hk) rfl)
  have P2 := P1.spared S2 (fun hk => hpa _ (hrow _ _ _ hk) rfl)
  have HW : Hid (Went w a a') := fun k hk => by
    rcases hat with h | h
    · left
      rw [rowOf_eq, rowOf_eq a n cap] at h
      unfold rowOf at hk ⊢
      rwa [h] at hk
    · right
      rw [rowOf_eq] at h
      unfold rowOf at hk
      rw [h] at hk
      obtain rfl := Option.some.inj hk
      exact B1.size
  have HK : Hid (∀ k, rowOf a' k → k ≠ c ∧ k ≠ w.heap.size) := fun k hk => by
    rcases hat with h | h
    · rw [rowOf_eq, rowOf_eq a n cap] at h
      have hk' : rowOf a k := by
        unfold rowOf at hk ⊢
        rwa [h] at hk
      exact ⟨hac k hk', by have := hal k hk'; omega⟩
    · rw [rowOf_eq] at h
      unfold rowOf at hk
      rw [h] at hk
      obtain rfl := Option.some.inj hk
      have : (w.alloc fz).drew.drew.heap.size = w.heap.size + 1 := World.size_alloc w fz
      exact ⟨by omega, by omega⟩
  have HS2 := hide (Spared.ahead B1 S2)
  have HO2 := hide O2
  have HC2 := hide C2
  have HR2 := hide R2
  have HAP := hide hap
  obtain ⟨p0, p1, _, _⟩ := P1.two
  obtain ⟨c0, c1, c2, c3, _, _, _, _⟩ := four_cells C1
  obtain ⟨d0, d1, d2, d3, f0, f1, _, _⟩ := four_cells C2
  obtain ⟨q0, q1, _, _⟩ := P2.two
  obtain ⟨r0, r1, g0, g1⟩ := R2.two
  have hw : IntKind.i64.wrap ((most : Int) - (n : Int)) = (most : Int) - (n : Int) := by rw [IntKind.wrap_i64]; omega
  have hl : ¬ ((most : Int) - (n : Int) < (m : Int)) := by omega
  have hw2 : IntKind.i64.wrap ((n : Int) + (m : Int)) = (n : Int) + (m : Int) := by rw [IntKind.wrap_i64]; omega
  clear B1 R1 P1 C1 P C O Y hap hat S2 O2 C2 P2 R2 hm O1 Y1 S2'
  unfold fz at HAP p0 p1 c0 c1 c2 c3
  have hcR : ¬ c = w.heap.size := by omega
  have hRc : ¬ w.heap.size = c := by omega
  go_enter Try.func54, Try.ntmps54
  go_wp2_with fail
  go_region
  go_wp2_with fail
  go_region_law (refine step_app rfl _ _ _ _ rfl _ _ rfl rfl _ _ HAP.out ?_)
  all_goals
    clear p0 p1 c0 c1 c2 c3 hw hl
    go_wp2
    clear d0 d1 d2 d3 f0 f1 q0 q1 r0 r1 g0 g1
    have C5 := Box.aside (Box.aside (Box.put1 (Box.put1 HC2.out 0 (.slice a' (n + m) cap')) 1 (.int .i64 ((n : Int) + (m : Int)))) (g := w.heap.size) 0 (.int .i64 0) hcR) (g := w.heap.size) 1 (.int .i64 0) hcR
    have R5 := (Box.aside (Box.aside HR2.out (g := c) 0 (.slice a' (n + m) cap') hRc) (g := c) 1 (.int .i64 ((n : Int) + (m : Int))) hRc).set2 (.int .i64 0) (.int .i64 0)
    have S5 : Spared (fun k => k = c ∨ k = w.heap.size) w2 ((((w2.setCell ⟨c, 0, none⟩ (.slice a' (n + m) cap')).setCell ⟨c, 1, none⟩ (.int .i64 ((n : Int) + (m : Int)))).setCell ⟨w.heap.size, 0, none⟩ (.int .i64 0)).setCell ⟨w.heap.size, 1, none⟩ (.int .i64 0)) := ((((Spared.refl _ w2).setCell (.inl rfl) 0 _).setCell (.inl rfl) 1 _).setCell (.inr rfl) 0 _).setCell (.inr rfl) 1 _
    obtain ⟨W5, hW5⟩ : ∃ W5, (((w2.setCell ⟨c, 0, none⟩ (.slice a' (n + m) cap')).setCell ⟨c, 1, none⟩ (.int .i64 ((n : Int) + (m : Int)))).setCell ⟨w.heap.size, 0, none⟩ (.int .i64 0)).setCell ⟨w.heap.size, 1, none⟩ (.int .i64 0) = W5 := ⟨_, rfl⟩
    rw [hW5] at C5 R5 S5 ⊢
    clear hW5
    obtain ⟨g0, g1, _, _⟩ := R5.two
    refine bodyPost_ret (v := .agg #[.int .i64 0, .int .i64 0]) (by simp [results, Try.f54, go_sem, g0, g1]) rfl ?_
    exact ⟨a', cap', rfl, C5, HO2.out.spared S5 (fun k hk => fun h => by
      have := HK.out k (by rw [rowOf_eq] at hk; exact hk)
      rcases h with h | h
      · exact this.1 h
      · exact this.2 h), (HS2.out.mono (fun k _ hk => Or.inr (hrow _ _ _ hk))).next S5 (fun i hi h => h.elim Or.inl (fun h => by omega)), HW.out⟩
structure PW (lo : Nat) (W : World) (p c most : Nat) (a : Option Addr) (n cap : Nat) (s : List Int × Int) : Prop where
  wri : Wri W p c most
  cur : ∃ fa, Cur W c (.slice a n cap) n s.2 fa
  own : OwnB lo W (.slice a n cap) s.1
  le : n ≤ most
  most : most ≤ 100000
  lo_ : lo ≤ W.heap.size
theorem PW.len {lo p c most n cap : Nat} {a : Option Addr} {s : List Int × Int} {W : World} (h : PW lo W p c most a n cap s) : s.1.length = n := by
  obtain ⟨_, _, e, _⟩ := ownb_seg h.own
  simp only [Value.slice.injEq] at e
  exact e.2.1.symm
theorem PW.byt {lo p c most n cap : Nat} {a : Option Addr} {s : List Int × Int} {W : World} (h : PW lo W p c most a n cap s) : Byt lo W (.slice a n cap) s.1 := by
  obtain ⟨_, _, e, S⟩ := ownb_seg h.own
  rw [← e] at S
  exact S
theorem PW.spared {lo p c most n cap : Nat} {a : Option Addr} {s : List Int × Int} {A B : World} {F : Nat → Prop} (h : PW lo A p c most a n cap s) (hs : Spared F A B) (h1 : ¬ F p) (h2 : ¬ F c) (h3 : ∀ k, rowOf a k → ¬ F k) : PW lo B p c most a n cap s := by
  obtain ⟨fa, C⟩ := h.cur
  exact ⟨Box.spared h.wri hs h1, ⟨fa, Box.spared C hs h2⟩, h.own.spared hs (fun k hk => h3 k (by rw [rowOf_eq] at hk; exact hk)), h.le, h.most, Nat.le_trans h.lo_ hs.size⟩
theorem PW.below {lo p c most n cap : Nat} {a : Option Addr} {s : List Int × Int} {A B : World} (h : PW lo A p c most a n cap s) (hb : Below A.heap.size A B) : PW lo B p c most a n cap s :=
  h.spared (Spared.of_below (fun _ => False) hb) (fun h => h) (fun h => h) (fun _ _ h => h)
theorem PW.row {lo p c most n cap : Nat} {a : Option Addr} {s : List Int × Int} {A : World} (h : PW lo A p c most a n cap s) {k : Nat} (hk : rowOf a k) : lo ≤ k ∧ k < A.heap.size ∧ k ≠ c ∧ k ≠ p := by
  obtain ⟨fa, C⟩ := h.cur
  have hk' : (Value.slice a n cap).ownBlock = some k := by rw [rowOf_eq]; exact hk
  exact ⟨(h.own.lt hk').1, (h.own.lt hk').2, h.own.apart C (by decide) hk', h.own.apart h.wri (by decide) hk'⟩
theorem PW.ne {lo p c most n cap : Nat} {a : Option Addr} {s : List Int × Int} {A : World} (h : PW lo A p c most a n cap s) : p ≠ c := by
  obtain ⟨fa, C⟩ := h.cur
  exact Box.apart h.wri C (by decide)
def LayPost (lo c : Nat) (a : Option Addr) (W : World) (s : List Int × Int) (e : Ending) (w' : World) : Prop :=
  ∃ (a' : Option Addr) (n' cap' : Nat) (y er' fa' : Int), e = .returned (.agg #[.int .i64 s.2, .int .i64 y]) ∧ Cur w' c (.slice a' n' cap') n' er' fa' ∧ OwnB lo w' (.slice a' n' cap') s.1 ∧ Spared (fun k => k = c ∨ rowOf a k) W w' ∧ Went W a a'
theorem Went.refl (W : World) (a : Option Addr) : Went W a a := fun _ h => .inl h
theorem LayPost.same {lo c : Nat} {a : Option Addr} {n cap : Nat} {W w' : World} {zs : List Int} {x y er fa : Int} {e : Ending} (he : e = .returned (.agg #[.int .i64 x, .int .i64 y])) (C : Cur W c (.slice a n cap) n er fa) (O : OwnB lo W (.slice a n cap) zs) (hb : Below W.heap.size W w') : LayPost lo c a W (zs, x) e w' :=
  ⟨a, n, cap, y, er, fa, he, Box.below C hb, O.below hb, Spared.of_below _ hb, Went.refl _ _⟩
theorem olay_any {lo lo' p c most n cap m d : Nat} {a b : Option Addr} {zs ys : List Int} {er fa : Int} {w : World} (P : Wri w p c most) (C : Cur w c (.slice a n cap) n er fa) (O : OwnB lo w (.slice a n cap) zs) (Y : Byt lo' w (.slice b m d) ys) (hn : n ≤ most) (hmost : most ≤ 100000) (hlo : lo ≤ w.heap.size) :
    Calls Try.prog 54 #[.pointer (some ⟨p, 0, none⟩), .slice b m d] w (LayPost lo c a w (rawW most (zs, 0) ys)) := by
  have hz : zs.length = n := by
    obtain ⟨_, _, e, _⟩ := ownb_seg O
    simp only [Value.slice.injEq] at e
    exact e.2.1.symm
  have hy := Y.len.1
  unfold rawW
  rw [if_pos rfl]
  by_cases h : most < n + m
  · rw [if_pos (by show most < zs.length + ys.length; omega)]
    refine (olay_long (b := b) (d := d) P C h hn hmost).mono ?_
    rintro e w' ⟨rfl, hb⟩
    exact LayPost.same rfl C O hb
  · rw [if_neg (by show ¬ most < zs.length + ys.length; omega)]
    refine (olay_some P C O Y (by omega) hmost hlo).mono ?_
    rintro e w' ⟨a', cap', rfl, C', O', S', W'⟩
    exact ⟨a', n + m, cap', 0, er, fa, rfl, C', O', S', W'⟩
theorem ostep_w {lo p c most n cap : Nat} {a : Option Addr} {s : List Int × Int} {w : World} (H : PW lo w p c most a n cap s) (J : Nat) (caps : Array Value) (hJ : ∀ (args : Array Value) (w : World), (callFunc J args).run Try.prog w = .ok (.enter J args) w) (s' : List Int × Int) (hle : s'.1.length ≤ most) (hs : ¬ s.2 = 0 → s' = s)
    (hon : s.2 = 0 → ∀ W, Below w.heap.size w W → Calls Try.prog J caps W (LayPost lo c a W s')) :
    Calls Try.prog 49 #[.pointer (some ⟨c, 0, none⟩), .func (.func J) #[] caps] w fun e w' => ∃ (a' : Option Addr) (n' cap' : Nat) (y : Int), e = .returned (.agg #[.int .i64 s'.2, .int .i64 y]) ∧ PW lo w' p c most a' n' cap' s' ∧ Spared (fun k => k = c ∨ rowOf a k) w w' ∧ Went w a a' := by
  obtain ⟨fa, C⟩ := H.cur
  by_cases h0 : s.2 = 0
  · rw [h0] at C
    refine (ostep_on C J caps hJ (rowOf a) (fun k hk => (H.row hk).2.1) (fun x y sv' a1 w2 => x = s'.2 ∧ ∃ (a' : Option Addr) (n' cap' : Nat), sv' = .slice a' n' cap' ∧ a1 = n' ∧ OwnB lo w2 (.slice a' n' cap') s'.1 ∧ ∀ k, rowOf a' k → rowOf a k ∨ w.heap.size + 2 ≤ k) (fun W hW hsz => (hon h0 W hW).mono ?_)).mono ?_
    · rintro e w2 ⟨a', n', cap', y, er', fa', rfl, C', O', S', W'⟩
      exact ⟨s'.2, y, _, _, er', fa', rfl, C', S', rfl, a', n', cap', rfl, rfl, O', fun k hk => by rw [← hsz]; exact W' k hk⟩
    · rintro e w3 ⟨x, y, sv', a1, w2, rfl, ⟨rfl, a', n', cap', rfl, rfl, O', W'⟩, C3, S3, S23⟩
      have O3 := O'.spared S23 (fun k hk => by
        rw [rowOf_eq] at hk
        rcases W' k hk with h | h
        · have := H.row h; omega
        · have := C.lt; omega)
      have hn' : n' = s'.1.length := by
        obtain ⟨_, _, e, _⟩ := ownb_seg O3
        simp only [Value.slice.injEq] at e
        exact e.2.1
      exact ⟨a', n', cap', y, rfl, ⟨Box.spared H.wri S3 (fun h => h.elim (fun h => H.ne h) (fun h => (H.row h).2.2.2 rfl)), ⟨y, C3⟩, O3, by omega, H.most, Nat.le_trans H.lo_ S3.size⟩, S3, fun k hk => (W' k hk).imp id (fun h => by omega)⟩
  · rw [hs h0]
    refine (ostep_stays C h0 J caps).mono ?_
    rintro e w' ⟨rfl, C', S'⟩
    exact ⟨a, n, cap, fa, rfl, ⟨Box.spared H.wri S' H.ne, ⟨fa, C'⟩, H.own.spared S' (fun k hk => by rw [rowOf_eq] at hk; exact (H.row hk).2.2.1), H.le, H.most, Nat.le_trans H.lo_ S'.size⟩, S'.mono (fun _ _ h => .inl h), Went.refl _ _⟩
set_option maxRecDepth 100000 in
set_option maxHeartbeats 1000000 in
theorem ownone_no {p c most : Nat} {w : World} (P : Wri w p c most) : Calls Try.prog 48 #[.pointer (some ⟨p, 0, none⟩)] w fun e w' => e = .returned (.bool false) ∧ w' = w := by
  obtain ⟨h, _, _, _⟩ := P.two
  go_enter Try.func48, Try.ntmps48
  go_wp2
  go_ret
  exact ⟨rfl, rfl⟩
theorem run_fault_err (x y : Int) (w : World) : (Instr.field 71 (.agg #[.int .i64 x, .int .i64 y]) 0).run Try.prog w = .ok (.int .i64 x) w := by kernel_rfl
theorem enter_oWPut1 (args : Array Value) (w : World) : (callFunc 50 args).run Try.prog w = .ok (.enter 50 args) w := by kernel_rfl
theorem lay_store {lo c n' cap' : Nat} {a a' : Option Addr} {s : List Int × Int} {y er' fa' : Int} {w W1 w2 : World} (B : Below w.heap.size w W1) (hz : w.heap.size < W1.heap.size) (hc : c < w.heap.size) (hr : ∀ k, rowOf a k → k < w.heap.size) (C : Cur w2 c (.slice a' n' cap') n' er' fa') (O : OwnB lo w2 (.slice a' n' cap') s.1) (S : Spared (fun k => k = c ∨ rowOf a k) W1 w2) (W : Went W1 a a') (u v : Value) :
    LayPost lo c a w s (.returned (.agg #[.int .i64 s.2, .int .i64 y])) ((w2.setCell ⟨w.heap.size, 0, none⟩ u).setCell ⟨w.heap.size, 1, none⟩ v) := by
  have S5 : Spared (fun k => k = w.heap.size) w2 ((w2.setCell ⟨w.heap.size, 0, none⟩ u).setCell ⟨w.heap.size, 1, none⟩ v) := ((Spared.refl (fun k => k = w.heap.size) w2).setCell (k := w.heap.size) rfl 0 _).setCell (k := w.heap.size) rfl 1 _
  refine ⟨a', n', cap', y, er', fa', rfl, Box.spared C S5 (by omega), O.spared S5 (fun k hk => ?_), (Spared.ahead B S).next S5 (fun i hi h => by omega), fun k hk => (W k hk).imp id (fun h => by omega)⟩
  rw [rowOf_eq] at hk
  rcases W k hk with h | h
  · have := hr k h; omega
  · omega
theorem lay_result {c : Nat} {a : Option Addr} {w W1 w2 : World} (R : Box W1 w.heap.size fz) (hc : c < w.heap.size) (hr : ∀ k, rowOf a k → k < w.heap.size) (S : Spared (fun k => k = c ∨ rowOf a k) W1 w2) : Box w2 w.heap.size fz :=
  R.spared S (fun h => h.elim (fun h => by omega) (fun h => by have := hr _ h; omega))
theorem rawW_len {most : Nat} {s : List Int × Int} {ys : List Int} (h : s.1.length ≤ most) : (rawW most s ys).1.length ≤ most := by
  unfold rawW
  split
  · split
    · exact h
    · show (s.1 ++ ys).length ≤ most
      rw [List.length_append]
      omega
  · exact h
def WriPost (lo p c most : Nat) (a : Option Addr) (w : World) (s' : List Int × Int) (e : Ending) (w' : World) : Prop :=
  ∃ (a' : Option Addr) (n' cap' : Nat), e = .returned (.int .i64 s'.2) ∧ PW lo w' p c most a' n' cap' s' ∧ Spared (fun k => k = c ∨ rowOf a k) w w' ∧ Went w a a'
theorem putW_len {most : Nat} {s : List Int × Int} {k x : Int} (h : s.1.length ≤ most) : (putW most s k x).1.length ≤ most := by
  unfold putW
  split
  · split
    · split
      · exact rawW_len h
      · exact h
    · exact h
  · exact h
theorem putW_stays {most : Nat} {s : List Int × Int} {k x : Int} (h : ¬ s.2 = 0) : putW most s k x = s := if_neg h
structure PutIn (w : World) (A B D p : Nat) (k x : Int) : Prop where
  a : Box w A (.cells #[.int .i64 k] 3)
  b : Box w B (.cells #[.pointer (some ⟨p, 0, none⟩)] 49)
  d : Box w D (.cells #[.int .i64 x] 3)
theorem PutIn.below {w w' : World} {A B D p : Nat} {k x : Int} (h : PutIn w A B D p k x) (hb : Below w.heap.size w w') : PutIn w' A B D p k x := ⟨h.a.below hb, h.b.below hb, h.d.below hb⟩
set_option maxRecDepth 100000 in
set_option maxHeartbeats 2000000 in
theorem oput1_arg {lo p c most n cap A B D : Nat} {a : Option Addr} {s : List Int × Int} {k x : Int} {w : World} (H : PW lo w p c most a n cap s) (I : PutIn w A B D p k x) (hk : ¬ IsW k) :
    Calls Try.prog 50 #[.pointer (some ⟨A, 0, none⟩), .pointer (some ⟨B, 0, none⟩), .pointer (some ⟨D, 0, none⟩)] w (LayPost lo c a w (s.1, 2)) := by
  obtain ⟨fa, C⟩ := H.cur
  have B1 := below_new w fz
  have I1 := I.below B1
  have H1 := H.below B1
  have hi := oisw_any k (w.alloc fz)
  rw [show decide (IsW k) = false from decide_eq_false hk] at hi
  clear hk
  have hh := ohere_any (w := w.alloc fz) (Box.below C B1) 2
  obtain ⟨a0, _⟩ := one_of I1.a
  obtain ⟨b0, _⟩ := one_of I1.b
  obtain ⟨d0, _⟩ := one_of I1.d
  obtain ⟨p0, _, _, _⟩ := H1.wri.two
  have HR := hide (Box.new w fz)
  have HB := hide B1
  have HC := hide C
  have HO := hide H.own
  clear I I1 H H1 B1 C
  unfold fz at hi hh a0 b0 d0 p0
  go_enter Try.func50, Try.ntmps50
  go_wp2_with fail
  refine hi.mono ?_
  rintro e w1 ⟨rfl, rfl⟩
  clear hi
  go_wp2_with fail
  refine hh.mono ?_
  rintro e w2 ⟨rfl, b2⟩
  have R2 := HR.out.below b2
  obtain ⟨r0, r1, f0, f1⟩ := R2.two
  have HR2 := hide R2
  have HB2 := hide (HB.out.trans (Below.mono b2 HB.out.size))
  clear hh R2 b2 a0 b0 d0 p0 HR HB
  go_wp2
  clear r0 r1 f0 f1
  obtain ⟨g0, g1, _, _⟩ := (HR2.out.set2 (.int .i64 2) (.int .i64 (n : Nat))).two
  have HBZ := (HB2.out.setCell (p := ⟨w.heap.size, 0, none⟩) (Nat.le_refl _) (.int .i64 2)).setCell (p := ⟨w.heap.size, 1, none⟩) (Nat.le_refl _) (.int .i64 (n : Nat))
  refine bodyPost_ret (v := .agg #[.int .i64 2, .int .i64 (n : Nat)]) (by simp [results, Try.f50, go_sem, g0, g1]) rfl ?_
  exact LayPost.same rfl HC.out HO.out HBZ
set_option maxRecDepth 100000 in
set_option maxHeartbeats 2000000 in
theorem oput1_neg {lo p c most n cap A B D : Nat} {a : Option Addr} {s : List Int × Int} {k x : Int} {w : World} (H : PW lo w p c most a n cap s) (I : PutIn w A B D p k x) (hk : IsW k) (hq : x < 0) :
    Calls Try.prog 50 #[.pointer (some ⟨A, 0, none⟩), .pointer (some ⟨B, 0, none⟩), .pointer (some ⟨D, 0, none⟩)] w (LayPost lo c a w (s.1, 3)) := by
  obtain ⟨fa, C⟩ := H.cur
  have B1 := below_new w fz
  have I1 := I.below B1
  have H1 := H.below B1
  have hi := oisw_any k (w.alloc fz)
  rw [show decide (IsW k) = true from decide_eq_true hk] at hi
  clear hk
  have hh := ohere_any (w := w.alloc fz) (Box.below C B1) 3
  obtain ⟨a0, _⟩ := one_of I1.a
  obtain ⟨b0, _⟩ := one_of I1.b
  obtain ⟨d0, _⟩ := one_of I1.d
  obtain ⟨p0, _, _, _⟩ := H1.wri.two
  have HR := hide (Box.new w fz)
  have HB := hide B1
  have HC := hide C
  have HO := hide H.own
  clear I I1 H H1 B1 C
  unfold fz at hi hh a0 b0 d0 p0
  go_enter Try.func50, Try.ntmps50
  go_wp2_with fail
  refine hi.mono ?_
  rintro e w1 ⟨rfl, rfl⟩
  clear hi
  go_wp2_with fail
  refine hh.mono ?_
  rintro e w2 ⟨rfl, b2⟩
  have R2 := HR.out.below b2
  obtain ⟨r0, r1, f0, f1⟩ := R2.two
  have HR2 := hide R2
  have HB2 := hide (HB.out.trans (Below.mono b2 HB.out.size))
  clear hh R2 b2 a0 b0 d0 p0 HR HB
  go_wp2
  clear r0 r1 f0 f1
  obtain ⟨g0, g1, _, _⟩ := (HR2.out.set2 (.int .i64 3) (.int .i64 (n : Nat))).two
  have HBZ := (HB2.out.setCell (p := ⟨w.heap.size, 0, none⟩) (Nat.le_refl _) (.int .i64 3)).setCell (p := ⟨w.heap.size, 1, none⟩) (Nat.le_refl _) (.int .i64 (n : Nat))
  refine bodyPost_ret (v := .agg #[.int .i64 3, .int .i64 (n : Nat)]) (by simp [results, Try.f50, go_sem, g0, g1]) rfl ?_
  exact LayPost.same rfl HC.out HO.out HBZ
set_option maxRecDepth 100000 in
set_option maxHeartbeats 2000000 in
theorem oput1_big1 {lo p c most n cap A B D : Nat} {a : Option Addr} {s : List Int × Int} {x : Int} {w : World} (H : PW lo w p c most a n cap s) (I : PutIn w A B D p 1 x) (hn : ¬ x < 0) (hq : (x / 256 != 0) = true) :
    Calls Try.prog 50 #[.pointer (some ⟨A, 0, none⟩), .pointer (some ⟨B, 0, none⟩), .pointer (some ⟨D, 0, none⟩)] w (LayPost lo c a w (s.1, 3)) := by
  obtain ⟨fa, C⟩ := H.cur
  have B1 := below_new w fz
  have I1 := I.below B1
  have H1 := H.below B1
  have hi := oisw_any 1 (w.alloc fz)
  rw [show decide (IsW 1) = true from rfl] at hi
  have hh := ohere_any (w := w.alloc fz) (Box.below C B1) 3
  obtain ⟨a0, _⟩ := one_of I1.a
  obtain ⟨b0, _⟩ := one_of I1.b
  obtain ⟨d0, _⟩ := one_of I1.d
  obtain ⟨p0, _, _, _⟩ := H1.wri.two
  have HR := hide (Box.new w fz)
  have HB := hide B1
  have HC := hide C
  have HO := hide H.own
  clear I I1 H H1 B1 C
  unfold fz at hi hh a0 b0 d0 p0
  go_enter Try.func50, Try.ntmps50
  go_wp2_with fail
  refine hi.mono ?_
  rintro e w1 ⟨rfl, rfl⟩
  clear hi
  go_wp2_with fail
  refine hh.mono ?_
  rintro e w2 ⟨rfl, b2⟩
  have R2 := HR.out.below b2
  obtain ⟨r0, r1, f0, f1⟩ := R2.two
  have HR2 := hide R2
  have HB2 := hide (HB.out.trans (Below.mono b2 HB.out.size))
  clear hh R2 b2 a0 b0 d0 p0 HR HB
  go_wp2
  clear r0 r1 f0 f1
  obtain ⟨g0, g1, _, _⟩ := (HR2.out.set2 (.int .i64 3) (.int .i64 (n : Nat))).two
  have HBZ := (HB2.out.setCell (p := ⟨w.heap.size, 0, none⟩) (Nat.le_refl _) (.int .i64 3)).setCell (p := ⟨w.heap.size, 1, none⟩) (Nat.le_refl _) (.int .i64 (n : Nat))
  refine bodyPost_ret (v := .agg #[.int .i64 3, .int .i64 (n : Nat)]) (by simp [results, Try.f50, go_sem, g0, g1]) rfl ?_
  exact LayPost.same rfl HC.out HO.out HBZ
set_option maxRecDepth 100000 in
set_option maxHeartbeats 2000000 in
theorem oput1_big2 {lo p c most n cap A B D : Nat} {a : Option Addr} {s : List Int × Int} {x : Int} {w : World} (H : PW lo w p c most a n cap s) (I : PutIn w A B D p 2 x) (hn : ¬ x < 0) (hq : (x / 65536 != 0) = true) :
    Calls Try.prog 50 #[.pointer (some ⟨A, 0, none⟩), .pointer (some ⟨B, 0, none⟩), .pointer (some ⟨D, 0, none⟩)] w (LayPost lo c a w (s.1, 3)) := by
  obtain ⟨fa, C⟩ := H.cur
  have B1 := below_new w fz
  have I1 := I.below B1
  have H1 := H.below B1
  have hi := oisw_any 2 (w.alloc fz)
  rw [show decide (IsW 2) = true from rfl] at hi
  have hh := ohere_any (w := w.alloc fz) (Box.below C B1) 3
  obtain ⟨a0, _⟩ := one_of I1.a
  obtain ⟨b0, _⟩ := one_of I1.b
  obtain ⟨d0, _⟩ := one_of I1.d
  obtain ⟨p0, _, _, _⟩ := H1.wri.two
  have HR := hide (Box.new w fz)
  have HB := hide B1
  have HC := hide C
  have HO := hide H.own
  clear I I1 H H1 B1 C
  unfold fz at hi hh a0 b0 d0 p0
  go_enter Try.func50, Try.ntmps50
  go_wp2_with fail
  refine hi.mono ?_
  rintro e w1 ⟨rfl, rfl⟩
  clear hi
  go_wp2_with fail
  refine hh.mono ?_
  rintro e w2 ⟨rfl, b2⟩
  have R2 := HR.out.below b2
  obtain ⟨r0, r1, f0, f1⟩ := R2.two
  have HR2 := hide R2
  have HB2 := hide (HB.out.trans (Below.mono b2 HB.out.size))
  clear hh R2 b2 a0 b0 d0 p0 HR HB
  go_wp2
  clear r0 r1 f0 f1
  obtain ⟨g0, g1, _, _⟩ := (HR2.out.set2 (.int .i64 3) (.int .i64 (n : Nat))).two
  have HBZ := (HB2.out.setCell (p := ⟨w.heap.size, 0, none⟩) (Nat.le_refl _) (.int .i64 3)).setCell (p := ⟨w.heap.size, 1, none⟩) (Nat.le_refl _) (.int .i64 (n : Nat))
  refine bodyPost_ret (v := .agg #[.int .i64 3, .int .i64 (n : Nat)]) (by simp [results, Try.f50, go_sem, g0, g1]) rfl ?_
  exact LayPost.same rfl HC.out HO.out HBZ
set_option maxRecDepth 100000 in
set_option maxHeartbeats 2000000 in
theorem oput1_big4 {lo p c most n cap A B D : Nat} {a : Option Addr} {s : List Int × Int} {x : Int} {w : World} (H : PW lo w p c most a n cap s) (I : PutIn w A B D p 4 x) (hn : ¬ x < 0) (hq : (x / 4294967296 != 0) = true) :
    Calls Try.prog 50 #[.pointer (some ⟨A, 0, none⟩), .pointer (some ⟨B, 0, none⟩), .pointer (some ⟨D, 0, none⟩)] w (LayPost lo c a w (s.1, 3)) := by
  obtain ⟨fa, C⟩ := H.cur
  have B1 := below_new w fz
  have I1 := I.below B1
  have H1 := H.below B1
  have hi := oisw_any 4 (w.alloc fz)
  rw [show decide (IsW 4) = true from rfl] at hi
  have hh := ohere_any (w := w.alloc fz) (Box.below C B1) 3
  obtain ⟨a0, _⟩ := one_of I1.a
  obtain ⟨b0, _⟩ := one_of I1.b
  obtain ⟨d0, _⟩ := one_of I1.d
  obtain ⟨p0, _, _, _⟩ := H1.wri.two
  have HR := hide (Box.new w fz)
  have HB := hide B1
  have HC := hide C
  have HO := hide H.own
  clear I I1 H H1 B1 C
  unfold fz at hi hh a0 b0 d0 p0
  go_enter Try.func50, Try.ntmps50
  go_wp2_with fail
  refine hi.mono ?_
  rintro e w1 ⟨rfl, rfl⟩
  clear hi
  go_wp2_with fail
  refine hh.mono ?_
  rintro e w2 ⟨rfl, b2⟩
  have R2 := HR.out.below b2
  obtain ⟨r0, r1, f0, f1⟩ := R2.two
  have HR2 := hide R2
  have HB2 := hide (HB.out.trans (Below.mono b2 HB.out.size))
  clear hh R2 b2 a0 b0 d0 p0 HR HB
  go_wp2
  clear r0 r1 f0 f1
  obtain ⟨g0, g1, _, _⟩ := (HR2.out.set2 (.int .i64 3) (.int .i64 (n : Nat))).two
  have HBZ := (HB2.out.setCell (p := ⟨w.heap.size, 0, none⟩) (Nat.le_refl _) (.int .i64 3)).setCell (p := ⟨w.heap.size, 1, none⟩) (Nat.le_refl _) (.int .i64 (n : Nat))
  refine bodyPost_ret (v := .agg #[.int .i64 3, .int .i64 (n : Nat)]) (by simp [results, Try.f50, go_sem, g0, g1]) rfl ?_
  exact LayPost.same rfl HC.out HO.out HBZ
theorem byt_tail {W : World} {g x k o : Nat} (hk : k ≤ 8) (ho : 8 - k = o) (h : Eig W g (hik x)) : Byt g W (.slice (some ⟨g, o, none⟩) k k) (be k x) :=
  Byt.of_cells (be_octs k x) (be_length k x) (Nat.le_refl _) (Nat.le_refl _) h.lt (fun _ hj => ⟨(cell_of_row W g _ _ _ _ h.what).trans (ho ▸ eig_cell hk hj), h.thaw⟩)
set_option maxRecDepth 100000 in
set_option maxHeartbeats 4000000 in
theorem oput1_1 {lo p c most n cap A B D : Nat} {a : Option Addr} {s : List Int × Int} {x : Nat} {w : World} (H : PW lo w p c most a n cap s) (h0 : s.2 = 0) (I : PutIn w A B D p 1 x) (hx : x < 9223372036854775808) (hq : ((x : Int) / 256 != 0) = false) :
    Calls Try.prog 50 #[.pointer (some ⟨A, 0, none⟩), .pointer (some ⟨B, 0, none⟩), .pointer (some ⟨D, 0, none⟩)] w (LayPost lo c a w (rawW most s (be 1 x))) := by
  obtain ⟨s', hs'⟩ : ∃ s', rawW most s (be 1 x) = s' := ⟨_, rfl⟩
  rw [hs']
  have HS := hide hs'
  clear hs'
  have B1 := below_new w fz
  have I1 := I.below B1
  have H1 := H.below B1
  have hi := oisw_any 1 (w.alloc fz)
  have hn : ¬ (x : Int) < 0 := by omega
  rw [show decide (IsW 1) = true from rfl] at hi
  have hh := ohigh_any x hx (w.alloc fz)
  obtain ⟨a0, _⟩ := one_of I1.a
  obtain ⟨b0, _⟩ := one_of I1.b
  obtain ⟨d0, _⟩ := one_of I1.d
  have HB := hide B1
  have HI := hide I1
  have HH := hide H
  have HX := hide hx
  have H0 := hide h0
  clear I I1 H H1 B1 hx h0
  unfold fz at hi hh a0 b0 d0
  go_enter Try.func50, Try.ntmps50
  go_wp2_with fail
  refine hi.mono ?_
  rintro e w1 ⟨rfl, rfl⟩
  clear hi
  go_wp2_with fail
  refine hh.mono ?_
  rintro e w2 ⟨rfl, b2⟩
  clear hh a0 b0 d0
  have B2 := HB.out.trans (Below.mono b2 HB.out.size)
  have b3 := below_new w2 (.cells (eig (hik x)) 82)
  have I3 := (HI.out.below b2).below b3
  have R3 := ((Box.new w fz).below b2).below b3
  obtain ⟨a0, _⟩ := one_of I3.a
  obtain ⟨b0, _⟩ := one_of I3.b
  have H3 := (HH.out.below B2).below b3
  have T3 : Eig (w2.alloc (.cells (eig (hik x)) 82)) w2.heap.size (hik x) := Box.new w2 _
  have Y3 := byt_tail (k := 1) (by decide) rfl T3
  obtain ⟨fa, C3⟩ := H3.cur
  have hs : (s.1, (0 : Int)) = s := by rw [← H0.out]
  have hl := olay_any (w := (w2.alloc (.cells (eig (hik x)) 82)).drew) H3.wri.drew C3.drew H3.own Y3.drew H3.le H3.most H3.lo_
  rw [hs, HS.out] at hl
  have HB3 : Hid (Below w.heap.size w (w2.alloc (.cells (eig (hik x)) 82)).drew) := (B2.trans (b3.mono B2.size)).drew
  have HR3 : Hid (Box (w2.alloc (.cells (eig (hik x)) 82)).drew w.heap.size fz) := R3.drew
  have hw : IntKind.i64.wrap 7 = 7 := by decide
  clear b2 B2 b3 I3 H3 T3 Y3 C3 hs R3
  go_wp2_with (refine wpList_store_row rfl 82 (.tmp 4) (.tmp 28) rfl w2.heap.size (eig (hik x)) rfl rfl 82 _ (heap_alloc_last w2 _) (eig_info _) (by rw [eig_size]; rfl) (eig_one _) ?_; rw [World.setRow_alloc_new])
  go_region_with
    (go_at_call 54
     refine hl.mono ?_
     rintro e w4 ⟨a', n', cap', y, er', fa', rfl, C', O', S', W'⟩
     have hcl := (HH.out.cur.elim fun _ C => Box.lt C)
     have hrl := fun k (hk : rowOf a k) => (HH.out.row hk).2.1
     have R4 := lay_result HR3.out hcl hrl S'
     have hfin := fun u v => lay_store (y := y) HB3.out HR3.out.lt hcl hrl C' O' S' W' u v
     have HF := hide hfin
     have HR := hide R4
     have hc4 := R4.two
     have r0 := hc4.1
     have r1 := hc4.2.1
     have f0 := hc4.2.2.1
     have f1 := hc4.2.2.2
     clear hc4
     clear hl a0 b0 R4 hfin C' O' S' W' hcl hrl)
  all_goals
    go_wp2
    clear r0 r1 f0 f1
    obtain ⟨g0, g1, _, _⟩ := (HR.out.set2 (.int .i64 s'.2) (.int .i64 y)).two
    refine bodyPost_ret (v := .agg #[.int .i64 s'.2, .int .i64 y]) (by simp [results, Try.f50, go_sem, g0, g1]) rfl ?_
    exact HF.out _ _
set_option maxRecDepth 100000 in
set_option maxHeartbeats 4000000 in
theorem oput1_2 {lo p c most n cap A B D : Nat} {a : Option Addr} {s : List Int × Int} {x : Nat} {w : World} (H : PW lo w p c most a n cap s) (h0 : s.2 = 0) (I : PutIn w A B D p 2 x) (hx : x < 9223372036854775808) (hq : ((x : Int) / 65536 != 0) = false) :
    Calls Try.prog 50 #[.pointer (some ⟨A, 0, none⟩), .pointer (some ⟨B, 0, none⟩), .pointer (some ⟨D, 0, none⟩)] w (LayPost lo c a w (rawW most s (be 2 x))) := by
  obtain ⟨s', hs'⟩ : ∃ s', rawW most s (be 2 x) = s' := ⟨_, rfl⟩
  rw [hs']
  have HS := hide hs'
  clear hs'
  have B1 := below_new w fz
  have I1 := I.below B1
  have H1 := H.below B1
  have hi := oisw_any 2 (w.alloc fz)
  have hn : ¬ (x : Int) < 0 := by omega
  rw [show decide (IsW 2) = true from rfl] at hi
  have hh := ohigh_any x hx (w.alloc fz)
  obtain ⟨a0, _⟩ := one_of I1.a
  obtain ⟨b0, _⟩ := one_of I1.b
  obtain ⟨d0, _⟩ := one_of I1.d
  have HB := hide B1
  have HI := hide I1
  have HH := hide H
  have HX := hide hx
  have H0 := hide h0
  clear I I1 H H1 B1 hx h0
  unfold fz at hi hh a0 b0 d0
  go_enter Try.func50, Try.ntmps50
  go_wp2_with fail
  refine hi.mono ?_
  rintro e w1 ⟨rfl, rfl⟩
  clear hi
  go_wp2_with fail
  refine hh.mono ?_
  rintro e w2 ⟨rfl, b2⟩
  clear hh a0 b0 d0
  have B2 := HB.out.trans (Below.mono b2 HB.out.size)
  have b3 := below_new w2 (.cells (eig (hik x)) 82)
  have I3 := (HI.out.below b2).below b3
  have R3 := ((Box.new w fz).below b2).below b3
  obtain ⟨a0, _⟩ := one_of I3.a
  obtain ⟨b0, _⟩ := one_of I3.b
  have H3 := (HH.out.below B2).below b3
  have T3 : Eig (w2.alloc (.cells (eig (hik x)) 82)) w2.heap.size (hik x) := Box.new w2 _
  have Y3 := byt_tail (k := 2) (by decide) rfl T3
  obtain ⟨fa, C3⟩ := H3.cur
  have hs : (s.1, (0 : Int)) = s := by rw [← H0.out]
  have hl := olay_any (w := (w2.alloc (.cells (eig (hik x)) 82)).drew) H3.wri.drew C3.drew H3.own Y3.drew H3.le H3.most H3.lo_
  rw [hs, HS.out] at hl
  have HB3 : Hid (Below w.heap.size w (w2.alloc (.cells (eig (hik x)) 82)).drew) := (B2.trans (b3.mono B2.size)).drew
  have HR3 : Hid (Box (w2.alloc (.cells (eig (hik x)) 82)).drew w.heap.size fz) := R3.drew
  have hw : IntKind.i64.wrap 6 = 6 := by decide
  clear b2 B2 b3 I3 H3 T3 Y3 C3 hs R3
  go_wp2_with (refine wpList_store_row rfl 82 (.tmp 4) (.tmp 28) rfl w2.heap.size (eig (hik x)) rfl rfl 82 _ (heap_alloc_last w2 _) (eig_info _) (by rw [eig_size]; rfl) (eig_one _) ?_; rw [World.setRow_alloc_new])
  go_region_with
    (go_at_call 54
     refine hl.mono ?_
     rintro e w4 ⟨a', n', cap', y, er', fa', rfl, C', O', S', W'⟩
     have hcl := (HH.out.cur.elim fun _ C => Box.lt C)
     have hrl := fun k (hk : rowOf a k) => (HH.out.row hk).2.1
     have R4 := lay_result HR3.out hcl hrl S'
     have hfin := fun u v => lay_store (y := y) HB3.out HR3.out.lt hcl hrl C' O' S' W' u v
     have HF := hide hfin
     have HR := hide R4
     have hc4 := R4.two
     have r0 := hc4.1
     have r1 := hc4.2.1
     have f0 := hc4.2.2.1
     have f1 := hc4.2.2.2
     clear hc4
     clear hl a0 b0 R4 hfin C' O' S' W' hcl hrl)
  all_goals
    go_wp2
    clear r0 r1 f0 f1
    obtain ⟨g0, g1, _, _⟩ := (HR.out.set2 (.int .i64 s'.2) (.int .i64 y)).two
    refine bodyPost_ret (v := .agg #[.int .i64 s'.2, .int .i64 y]) (by simp [results, Try.f50, go_sem, g0, g1]) rfl ?_
    exact HF.out _ _
set_option maxRecDepth 100000 in
set_option maxHeartbeats 4000000 in
theorem oput1_4 {lo p c most n cap A B D : Nat} {a : Option Addr} {s : List Int × Int} {x : Nat} {w : World} (H : PW lo w p c most a n cap s) (h0 : s.2 = 0) (I : PutIn w A B D p 4 x) (hx : x < 9223372036854775808) (hq : ((x : Int) / 4294967296 != 0) = false) :
    Calls Try.prog 50 #[.pointer (some ⟨A, 0, none⟩), .pointer (some ⟨B, 0, none⟩), .pointer (some ⟨D, 0, none⟩)] w (LayPost lo c a w (rawW most s (be 4 x))) := by
  obtain ⟨s', hs'⟩ : ∃ s', rawW most s (be 4 x) = s' := ⟨_, rfl⟩
  rw [hs']
  have HS := hide hs'
  clear hs'
  have B1 := below_new w fz
  have I1 := I.below B1
  have H1 := H.below B1
  have hi := oisw_any 4 (w.alloc fz)
  have hn : ¬ (x : Int) < 0 := by omega
  rw [show decide (IsW 4) = true from rfl] at hi
  have hh := ohigh_any x hx (w.alloc fz)
  obtain ⟨a0, _⟩ := one_of I1.a
  obtain ⟨b0, _⟩ := one_of I1.b
  obtain ⟨d0, _⟩ := one_of I1.d
  have HB := hide B1
  have HI := hide I1
  have HH := hide H
  have HX := hide hx
  have H0 := hide h0
  clear I I1 H H1 B1 hx h0
  unfold fz at hi hh a0 b0 d0
  go_enter Try.func50, Try.ntmps50
  go_wp2_with fail
  refine hi.mono ?_
  rintro e w1 ⟨rfl, rfl⟩
  clear hi
  go_wp2_with fail
  refine hh.mono ?_
  rintro e w2 ⟨rfl, b2⟩
  clear hh a0 b0 d0
  have B2 := HB.out.trans (Below.mono b2 HB.out.size)
  have b3 := below_new w2 (.cells (eig (hik x)) 82)
  have I3 := (HI.out.below b2).below b3
  have R3 := ((Box.new w fz).below b2).below b3
  obtain ⟨a0, _⟩ := one_of I3.a
  obtain ⟨b0, _⟩ := one_of I3.b
  have H3 := (HH.out.below B2).below b3
  have T3 : Eig (w2.alloc (.cells (eig (hik x)) 82)) w2.heap.size (hik x) := Box.new w2 _
  have Y3 := byt_tail (k := 4) (by decide) rfl T3
  obtain ⟨fa, C3⟩ := H3.cur
  have hs : (s.1, (0 : Int)) = s := by rw [← H0.out]
  have hl := olay_any (w := (w2.alloc (.cells (eig (hik x)) 82)).drew) H3.wri.drew C3.drew H3.own Y3.drew H3.le H3.most H3.lo_
  rw [hs, HS.out] at hl
  have HB3 : Hid (Below w.heap.size w (w2.alloc (.cells (eig (hik x)) 82)).drew) := (B2.trans (b3.mono B2.size)).drew
  have HR3 : Hid (Box (w2.alloc (.cells (eig (hik x)) 82)).drew w.heap.size fz) := R3.drew
  have hw : IntKind.i64.wrap 4 = 4 := by decide
  clear b2 B2 b3 I3 H3 T3 Y3 C3 hs R3
  go_wp2_with (refine wpList_store_row rfl 82 (.tmp 4) (.tmp 28) rfl w2.heap.size (eig (hik x)) rfl rfl 82 _ (heap_alloc_last w2 _) (eig_info _) (by rw [eig_size]; rfl) (eig_one _) ?_; rw [World.setRow_alloc_new])
  go_region_with
    (go_at_call 54
     refine hl.mono ?_
     rintro e w4 ⟨a', n', cap', y, er', fa', rfl, C', O', S', W'⟩
     have hcl := (HH.out.cur.elim fun _ C => Box.lt C)
     have hrl := fun k (hk : rowOf a k) => (HH.out.row hk).2.1
     have R4 := lay_result HR3.out hcl hrl S'
     have hfin := fun u v => lay_store (y := y) HB3.out HR3.out.lt hcl hrl C' O' S' W' u v
     have HF := hide hfin
     have HR := hide R4
     have hc4 := R4.two
     have r0 := hc4.1
     have r1 := hc4.2.1
     have f0 := hc4.2.2.1
     have f1 := hc4.2.2.2
     clear hc4
     clear hl a0 b0 R4 hfin C' O' S' W' hcl hrl)
  all_goals
    go_wp2
    clear r0 r1 f0 f1
    obtain ⟨g0, g1, _, _⟩ := (HR.out.set2 (.int .i64 s'.2) (.int .i64 y)).two
    refine bodyPost_ret (v := .agg #[.int .i64 s'.2, .int .i64 y]) (by simp [results, Try.f50, go_sem, g0, g1]) rfl ?_
    exact HF.out _ _
set_option maxRecDepth 100000 in
set_option maxHeartbeats 4000000 in
theorem oput1_8 {lo p c most n cap A B D : Nat} {a : Option Addr} {s : List Int × Int} {x : Nat} {w : World} (H : PW lo w p c most a n cap s) (h0 : s.2 = 0) (I : PutIn w A B D p 8 x) (hx : x < 9223372036854775808) (hq : ((x : Int) / 18446744073709551616 != 0) = false) :
    Calls Try.prog 50 #[.pointer (some ⟨A, 0, none⟩), .pointer (some ⟨B, 0, none⟩), .pointer (some ⟨D, 0, none⟩)] w (LayPost lo c a w (rawW most s (be 8 x))) := by
  obtain ⟨s', hs'⟩ : ∃ s', rawW most s (be 8 x) = s' := ⟨_, rfl⟩
  rw [hs']
  have HS := hide hs'
  clear hs'
  have B1 := below_new w fz
  have I1 := I.below B1
  have H1 := H.below B1
  have hi := oisw_any 8 (w.alloc fz)
  have hn : ¬ (x : Int) < 0 := by omega
  rw [show decide (IsW 8) = true from rfl] at hi
  have hh := ohigh_any x hx (w.alloc fz)
  obtain ⟨a0, _⟩ := one_of I1.a
  obtain ⟨b0, _⟩ := one_of I1.b
  obtain ⟨d0, _⟩ := one_of I1.d
  have HB := hide B1
  have HI := hide I1
  have HH := hide H
  have HX := hide hx
  have H0 := hide h0
  clear I I1 H H1 B1 hx h0
  unfold fz at hi hh a0 b0 d0
  go_enter Try.func50, Try.ntmps50
  go_wp2_with fail
  refine hi.mono ?_
  rintro e w1 ⟨rfl, rfl⟩
  clear hi
  go_wp2_with fail
  refine hh.mono ?_
  rintro e w2 ⟨rfl, b2⟩
  clear hh a0 b0 d0
  have B2 := HB.out.trans (Below.mono b2 HB.out.size)
  have b3 := below_new w2 (.cells (eig (hik x)) 82)
  have I3 := (HI.out.below b2).below b3
  have R3 := ((Box.new w fz).below b2).below b3
  obtain ⟨a0, _⟩ := one_of I3.a
  obtain ⟨b0, _⟩ := one_of I3.b
  have H3 := (HH.out.below B2).below b3
  have T3 : Eig (w2.alloc (.cells (eig (hik x)) 82)) w2.heap.size (hik x) := Box.new w2 _
  have Y3 := byt_tail (k := 8) (by decide) rfl T3
  obtain ⟨fa, C3⟩ := H3.cur
  have hs : (s.1, (0 : Int)) = s := by rw [← H0.out]
  have hl := olay_any (w := (w2.alloc (.cells (eig (hik x)) 82)).drew) H3.wri.drew C3.drew H3.own Y3.drew H3.le H3.most H3.lo_
  rw [hs, HS.out] at hl
  have HB3 : Hid (Below w.heap.size w (w2.alloc (.cells (eig (hik x)) 82)).drew) := (B2.trans (b3.mono B2.size)).drew
  have HR3 : Hid (Box (w2.alloc (.cells (eig (hik x)) 82)).drew w.heap.size fz) := R3.drew
  have hw : IntKind.i64.wrap 0 = 0 := by decide
  clear b2 B2 b3 I3 H3 T3 Y3 C3 hs R3
  go_wp2_with (refine wpList_store_row rfl 82 (.tmp 4) (.tmp 28) rfl w2.heap.size (eig (hik x)) rfl rfl 82 _ (heap_alloc_last w2 _) (eig_info _) (by rw [eig_size]; rfl) (eig_one _) ?_; rw [World.setRow_alloc_new])
  go_region_with
    (go_at_call 54
     refine hl.mono ?_
     rintro e w4 ⟨a', n', cap', y, er', fa', rfl, C', O', S', W'⟩
     have hcl := (HH.out.cur.elim fun _ C => Box.lt C)
     have hrl := fun k (hk : rowOf a k) => (HH.out.row hk).2.1
     have R4 := lay_result HR3.out hcl hrl S'
     have hfin := fun u v => lay_store (y := y) HB3.out HR3.out.lt hcl hrl C' O' S' W' u v
     have HF := hide hfin
     have HR := hide R4
     have hc4 := R4.two
     have r0 := hc4.1
     have r1 := hc4.2.1
     have f0 := hc4.2.2.1
     have f1 := hc4.2.2.2
     clear hc4
     clear hl a0 b0 R4 hfin C' O' S' W' hcl hrl)
  all_goals
    go_wp2
    clear r0 r1 f0 f1
    obtain ⟨g0, g1, _, _⟩ := (HR.out.set2 (.int .i64 s'.2) (.int .i64 y)).two
    refine bodyPost_ret (v := .agg #[.int .i64 s'.2, .int .i64 y]) (by simp [results, Try.f50, go_sem, g0, g1]) rfl ?_
    exact HF.out _ _
theorem putW_ok {most : Nat} {s : List Int × Int} {k x : Int} (h0 : s.2 = 0) (hw : IsW k) (hf : Fits k x) : putW most s k x = rawW most s (be k.toNat x.toNat) := by
  unfold putW; rw [if_pos h0, if_pos hw, if_pos hf]
theorem putW_range {most : Nat} {s : List Int × Int} {k x : Int} (h0 : s.2 = 0) (hw : IsW k) (hf : ¬ Fits k x) : putW most s k x = (s.1, 3) := by
  unfold putW; rw [if_pos h0, if_pos hw, if_neg hf]
theorem putW_arg {most : Nat} {s : List Int × Int} {k x : Int} (h0 : s.2 = 0) (hw : ¬ IsW k) : putW most s k x = (s.1, 2) := by
  unfold putW; rw [if_pos h0, if_neg hw]
theorem fits_1 (x : Int) : Fits 1 x ↔ 0 ≤ x ∧ x < 256 := by
  have : (256 : Int) ^ (1 : Int).toNat = 256 := by decide
  unfold Fits; rw [this]
theorem fits_2 (x : Int) : Fits 2 x ↔ 0 ≤ x ∧ x < 65536 := by
  have : (256 : Int) ^ (2 : Int).toNat = 65536 := by decide
  unfold Fits; rw [this]
theorem fits_4 (x : Int) : Fits 4 x ↔ 0 ≤ x ∧ x < 4294967296 := by
  have : (256 : Int) ^ (4 : Int).toNat = 4294967296 := by decide
  unfold Fits; rw [this]
theorem fits_8 (x : Int) (h : x ≤ 9223372036854775807) : Fits 8 x ↔ 0 ≤ x := by
  have : (256 : Int) ^ (8 : Int).toNat = 18446744073709551616 := by decide
  unfold Fits; rw [this]; omega
theorem div_none {x q : Int} (h0 : 0 ≤ x) (h : x < q) : (x / q != 0) = false := by
  rw [Int.ediv_eq_zero_of_lt h0 h]; rfl
theorem div_some {x q : Int} (hq : 0 < q) (h : q ≤ x) : (x / q != 0) = true := by
  have h1 : 1 ≤ x / q := (Int.le_ediv_iff_mul_le hq).2 (by omega)
  have : x / q ≠ 0 := by omega
  simpa using this
theorem oput1_any {lo p c most n cap A B D : Nat} {a : Option Addr} {s : List Int × Int} {k x : Int} {w : World} (H : PW lo w p c most a n cap s) (h0 : s.2 = 0) (I : PutIn w A B D p k x) (hx : x ≤ 9223372036854775807) :
    Calls Try.prog 50 #[.pointer (some ⟨A, 0, none⟩), .pointer (some ⟨B, 0, none⟩), .pointer (some ⟨D, 0, none⟩)] w (LayPost lo c a w (putW most s k x)) := by
  by_cases hw : IsW k
  · by_cases hn : x < 0
    · rw [putW_range h0 hw (fun h => by have := h.1; omega)]
      exact oput1_neg H I hw hn
    · obtain ⟨X, rfl⟩ := Int.eq_ofNat_of_zero_le (show 0 ≤ x by omega)
      rcases hw with rfl | rfl | rfl | rfl
      · by_cases hf : (X : Int) < 256
        · rw [putW_ok h0 (by decide) ((fits_1 _).2 ⟨by omega, hf⟩)]
          exact oput1_1 H h0 I (by omega) (div_none (by omega) hf)
        · rw [putW_range h0 (by decide) (fun h => hf ((fits_1 _).1 h).2)]
          exact oput1_big1 H I hn (div_some (by decide) (by omega))
      · by_cases hf : (X : Int) < 65536
        · rw [putW_ok h0 (by decide) ((fits_2 _).2 ⟨by omega, hf⟩)]
          exact oput1_2 H h0 I (by omega) (div_none (by omega) hf)
        · rw [putW_range h0 (by decide) (fun h => hf ((fits_2 _).1 h).2)]
          exact oput1_big2 H I hn (div_some (by decide) (by omega))
      · by_cases hf : (X : Int) < 4294967296
        · rw [putW_ok h0 (by decide) ((fits_4 _).2 ⟨by omega, hf⟩)]
          exact oput1_4 H h0 I (by omega) (div_none (by omega) hf)
        · rw [putW_range h0 (by decide) (fun h => hf ((fits_4 _).1 h).2)]
          exact oput1_big4 H I hn (div_some (by decide) (by omega))
      · rw [putW_ok h0 (by decide) ((fits_8 _ hx).2 (by omega))]
        exact oput1_8 H h0 I (by omega) (div_none (by omega) (by omega))
  · rw [putW_arg h0 hw]
    exact oput1_arg H I hw
set_option maxRecDepth 100000 in
set_option maxHeartbeats 2000000 in
theorem oput_any {lo p c most n cap : Nat} {a : Option Addr} {s : List Int × Int} {k x : Int} {w : World} (H : PW lo w p c most a n cap s) (hx : x ≤ 9223372036854775807) :
    Calls Try.prog 33 #[.pointer (some ⟨p, 0, none⟩), .int .i64 k, .int .i64 x] w (WriPost lo p c most a w (putW most s k x)) := by
  have hmf : ∀ (fn : Fn) (first cap : Array Value) (w : World), (Instr.makeFunc fn first cap).run Try.prog w = .ok (.func fn first cap) w := fun _ _ _ _ => rfl
  have hfe := run_fault_err
  have B1 := below_new w (.cells #[.pointer (some ⟨p, 0, none⟩)] 49)
  have A1 := Box.new w (.cells #[.pointer (some ⟨p, 0, none⟩)] 49)
  have B2 := below_new (w.alloc (.cells #[.pointer (some ⟨p, 0, none⟩)] 49)) (.cells #[.int .i64 k] 3)
  have D2 := Box.put (w := w.alloc (.cells #[.pointer (some ⟨p, 0, none⟩)] 49)) (k := w.heap.size + 1) (.cells #[.int .i64 k] 3) (by simp)
  have B3 := below_new ((w.alloc (.cells #[.pointer (some ⟨p, 0, none⟩)] 49)).alloc (.cells #[.int .i64 k] 3)) (.cells #[.int .i64 x] 3)
  have E3 := Box.put (w := (w.alloc (.cells #[.pointer (some ⟨p, 0, none⟩)] 49)).alloc (.cells #[.int .i64 k] 3)) (k := w.heap.size + 1 + 1) (.cells #[.int .i64 x] 3) (by simp)
  have A3 := (A1.below B2).below B3
  have D3 := D2.below B3
  have BB := B1.trans (B2.mono B1.size)
  have B := BB.trans (B3.mono BB.size)
  have H3 := H.below B
  have I3 : PutIn _ (w.heap.size + 1) w.heap.size (w.heap.size + 1 + 1) p k x := ⟨D3, A3, E3⟩
  have hno := ownone_no H3.wri
  have hst := ostep_w H3 50 #[.pointer (some ⟨w.heap.size + 1, 0, none⟩), .pointer (some ⟨w.heap.size, 0, none⟩), .pointer (some ⟨w.heap.size + 1 + 1, 0, none⟩)] enter_oWPut1 (putW most s k x) (putW_len (by rw [H.len]; exact H.le)) (fun h => putW_stays h) (fun h0 W hW => oput1_any (H3.below hW) h0 (I3.below hW) hx)
  have HB := hide B
  obtain ⟨a0, _⟩ := one_of A3
  obtain ⟨p0, _, _, _⟩ := H3.wri.two
  clear B1 A1 B2 D2 B3 E3 A3 D3 BB B H3 I3 H hx
  obtain ⟨s', hs'⟩ : ∃ s', putW most s k x = s' := ⟨_, rfl⟩
  rw [hs'] at hst ⊢
  clear hs'
  go_enter Try.func33, Try.ntmps33
  go_wp2_with fail
  refine hno.mono ?_
  rintro e w1 ⟨rfl, rfl⟩
  clear hno
  go_wp2_with fail
  refine hst.mono ?_
  rintro e w3 ⟨a', n', cap', y, rfl, H', S', W'⟩
  have HH := hide H'
  have HS := hide (Spared.ahead HB.out S')
  have HW : Hid (Went w a a') := fun k hk => (W' k hk).imp id (fun h => Nat.le_trans HB.out.size h)
  clear hst H' S' W' HB a0 p0
  go_wp2
  go_ret
  exact ⟨a', n', cap', rfl, HH.out, HS.out, HW.out⟩
set_option maxRecDepth 100000 in
set_option maxHeartbeats 1000000 in
theorem onew_yes (m : Nat) (h : m ≤ 100000) (w : World) : Calls Try.prog 30 #[.int .i64 m] w fun e w' => ∃ (p c : Nat), e = .returned (.tuple #[.pointer (some ⟨p, 0, none⟩), .int .i64 0]) ∧ PW w.heap.size w' p c m none 0 0 ([], 0) ∧ w.heap.size ≤ p ∧ w.heap.size ≤ c ∧ Below w.heap.size w w' := by
  have h0 : ¬ (m : Int) < 0 := by omega
  have h1 : ¬ 100000 < (m : Int) := by omega
  have HM := hide h
  clear h
  go_enter Try.func30, Try.ntmps30
  go_wp2
  refine bodyPost_ret (v := .tuple #[.pointer (some ⟨w.heap.size + 1, 0, none⟩), .int .i64 0]) (by simp [results, Try.f30, go_sem]) rfl ?_
  have B1 := below_new w (.cells #[.slice none 0 0, .int .i64 0, .int .i64 0, .int .i64 0] 76)
  have C1 := Box.new w (.cells #[.slice none 0 0, .int .i64 0, .int .i64 0, .int .i64 0] 76)
  have B2 := below_new (w.alloc (.cells #[.slice none 0 0, .int .i64 0, .int .i64 0, .int .i64 0] 76)) (.cells #[.pointer (some ⟨w.heap.size, 0, none⟩), .int .i64 m] 78)
  have P2 := Box.put (w := w.alloc (.cells #[.slice none 0 0, .int .i64 0, .int .i64 0, .int .i64 0] 76)) (k := w.heap.size + 1) (.cells #[.pointer (some ⟨w.heap.size, 0, none⟩), .int .i64 m] 78) (by simp)
  have B := B1.trans (B2.mono B1.size)
  exact ⟨w.heap.size + 1, rfl, w.heap.size, ⟨P2, ⟨0, C1.below B2⟩, ownb_nil _ _, Nat.zero_le _, HM.out, B.size⟩, Nat.le_succ _, Nat.le_refl _, B⟩
def BytPost (zs : List Int) (er : Int) (w : World) (e : Ending) (w' : World) : Prop := ∃ (a : Option Addr) (n c : Nat), e = .returned (.tuple #[.slice a n c, .int .i64 er]) ∧ Byt w.heap.size w' (.slice a n c) zs ∧ Below w.heap.size w w'
def tells (s : List Int × Int) : List Int := if s.2 = 0 then s.1 else []
set_option maxRecDepth 100000 in
set_option maxHeartbeats 2000000 in
theorem obytes_any {lo p c most n cap : Nat} {a : Option Addr} {s : List Int × Int} {w : World} (H : PW lo w p c most a n cap s) :
    Calls Try.prog 34 #[.pointer (some ⟨p, 0, none⟩)] w (BytPost (tells s) s.2 w) := by
  have hno := ownone_no H.wri
  obtain ⟨fa, C⟩ := H.cur
  obtain ⟨zs, er⟩ := s
  show Calls Try.prog 34 #[.pointer (some ⟨p, 0, none⟩)] w (BytPost (tells (zs, er)) er w)
  unfold tells
  obtain ⟨p0, _, _, _⟩ := H.wri.two
  obtain ⟨c0, _, c2, _, _, _, _, _⟩ := four_cells C
  dsimp only at c2
  by_cases h : er = 0
  · subst h
    have hcl := clone_any H.byt (by have := H.le; have := H.most; omega)
    rw [if_pos rfl]
    clear H C
    go_enter Try.func34, Try.ntmps34
    go_wp2_with fail
    refine hno.mono ?_
    rintro e w1 ⟨rfl, rfl⟩
    clear hno
    go_wp2_with fail
    refine hcl.mono ?_
    rintro e w2 ⟨a2, c2, rfl, S, b⟩
    have HS := hide S
    have HB := hide b
    clear hcl S b
    go_wp2
    refine bodyPost_ret (v := .tuple #[.slice a2 n c2, .int .i64 0]) (by simp [results, Try.f34, go_sem]) rfl ?_
    exact ⟨a2, n, c2, rfl, HS.out, HB.out⟩
  · rw [if_neg h]
    clear H C
    go_enter Try.func34, Try.ntmps34
    go_wp2_with fail
    refine hno.mono ?_
    rintro e w1 ⟨rfl, rfl⟩
    clear hno
    go_wp2_with fail
    go_region
    go_wp2
    refine bodyPost_ret (v := .tuple #[.slice none 0 0, .int .i64 er]) (by simp [results, Try.f34, go_sem]) rfl ?_
    exact ⟨none, 0, 0, rfl, Byt.nil _ _, (Below.refl _ w1).drew⟩
theorem Box.lo {A B : World} {k lo : Nat} {o : Obj} (h : Box A k o) (hb : Below lo A B) (hk : k < lo) : Box B k o := ⟨Nat.lt_of_lt_of_le h.lt hb.size, (hb.block k hk).trans h.what⟩
theorem PW.base {lo p c most n cap : Nat} {a : Option Addr} {s : List Int × Int} {w A B : World} (P : PW lo A p c most a n cap s) (hb : Below lo w A) (S : Spared (fun k => k = c ∨ rowOf a k) A B) (hc : lo ≤ c) : Below lo w B :=
  hb.trans (S.to_below P.lo_ (fun k hk => hk.elim (fun e => by omega) (fun e => (P.row e).1)))
theorem putW_fit {most : Nat} {zs : List Int} {k x : Int} {K : Nat} (hk : k = K) (hw : IsW k) (hf : Fits k x) (hl : zs.length + K ≤ most) : putW most (zs, 0) k x = (zs ++ be K x.toNat, 0) := by
  rw [putW_ok rfl hw hf]
  unfold rawW
  subst hk
  rw [if_pos rfl, if_neg (by rw [be_length]; dsimp only; omega), Int.toNat_natCast]
def widM : Nat → Nat
  | 0 => 4
  | 1 => 2
  | 2 => 4
  | 3 => 8
  | _ => 2
def numM (z y k s : Int) (n : Nat) : Nat → Int
  | 0 => z
  | 1 => y
  | 2 => k
  | 3 => s
  | _ => n
def accM (z y k s : Int) (n : Nat) : Nat → List Int
  | 0 => []
  | j + 1 => accM z y k s n j ++ be (widM j) (numM z y k s n j).toNat
theorem accM_len (z y k s : Int) (n j : Nat) (hj : j < 5) : (accM z y k s n j).length + widM j ≤ 20 := by
  have : j = 0 ∨ j = 1 ∨ j = 2 ∨ j = 3 ∨ j = 4 := by omega
  rcases this with rfl | rfl | rfl | rfl | rfl <;> simp [accM, widM, be_length]
theorem accM_head (z y k s : Int) (ts : List Int) : accM z y k s ts.length 5 = headM ⟨z, y, k, s, ts⟩ := by
  simp [accM, headM, widM, numM]
theorem widM_is (j : Nat) : IsW (widM j) := by
  match j with
  | 0 => decide
  | 1 => decide
  | 2 => decide
  | 3 => decide
  | j + 4 => exact (by decide : IsW ((2 : Nat) : Int))
theorem numM_fits {z y k s : Int} {ts : List Int} (h : MayM ⟨z, y, k, s, ts⟩) (hs : s ≤ 9223372036854775807) (j : Nat) : Fits (widM j : Nat) (numM z y k s ts.length j) ∧ numM z y k s ts.length j ≤ 9223372036854775807 := by
  obtain ⟨h1, h2, h3, h4, h5, h6⟩ := h
  dsimp only at *
  match j with
  | 0 => exact ⟨(fits_4 _).2 (by show 0 ≤ z ∧ z < 4294967296; omega), by show z ≤ 9223372036854775807; omega⟩
  | 1 => exact ⟨(fits_2 _).2 (by show 0 ≤ y ∧ y < 65536; omega), by show y ≤ 9223372036854775807; omega⟩
  | 2 => exact ⟨(fits_4 _).2 (by show 0 ≤ k ∧ k < 4294967296; omega), by show k ≤ 9223372036854775807; omega⟩
  | 3 => exact ⟨(fits_8 _ hs).2 h4, hs⟩
  | j + 4 => exact ⟨(fits_2 _).2 (by show (0 : Int) ≤ (ts.length : Int) ∧ (ts.length : Int) < 65536; omega), by show (ts.length : Int) ≤ 9223372036854775807; omega⟩
theorem run_fld (z y k s : Int) (n j : Nat) (hj : j < 5) (W : World) : (Instr.index 54 (.agg (fldsV z y k s n)) (.int .i64 (j : Nat))).run Try.prog W = .ok (.agg #[.int .i64 (widM j : Nat), .int .i64 (numM z y k s n j)]) W := by
  have : j = 0 ∨ j = 1 ∨ j = 2 ∨ j = 3 ∨ j = 4 := by omega
  rcases this with rfl | rfl | rfl | rfl | rfl <;> simp [Instr.index, fldsV, widM, numM, run_underlying Try.underlying54, go_sem]
theorem fours_take {ts : List Int} {k : Nat} (hk : k < ts.length) : fours (ts.take (k + 1)) = fours (ts.take k) ++ be 4 (ts[k]?.getD 0).toNat := by
  rw [List.take_add_one, List.getElem?_eq_getElem hk, Option.toList_some, fours_snoc, Option.getD_some]
theorem byt_mid {lo g o n cap t k : Nat} {W : World} {zs : List Int} (h : Byt lo W (.slice (some ⟨g, o, none⟩) n cap) zs) (hk : t + k ≤ n) : Byt lo W (.slice (if cap = t then some ⟨g, o, none⟩ else some ⟨g, o + t, none⟩) k (cap - t)) ((zs.drop t).take k) := by
  have hn := h.len
  by_cases h0 : k = 0
  · subst h0
    rw [List.take_zero]
    exact Byt.empty _ _ _ _
  · rw [if_neg (by omega)]
    obtain ⟨b, off, e, hlo, hlt⟩ := h.row (by omega)
    simp only [Option.some.injEq, Addr.mk.injEq] at e
    obtain ⟨rfl, rfl, _⟩ := e
    refine Byt.of_cells ((h.words.drop t).take k) (by rw [List.length_take, List.length_drop]; omega) (by omega) hlo hlt (fun j hj => ?_)
    have := h.cell (j := t + j) (by omega)
    rw [List.getElem?_take_of_lt hj, List.getElem?_drop, Nat.add_assoc]
    exact this
def Rdr (W : World) (r c : Nat) : Prop := Box W r (.cells #[.pointer (some ⟨c, 0, none⟩)] 87)
def nextR (zs : List Int) (t : Nat) (k : Int) (may : Bool) : List Int × Int × Int :=
  if may = true then (if (zs.length : Int) - t < k then ([], 7, (zs.length : Int)) else ((zs.drop t).take k.toNat, 0, 0)) else ([], 2, (t : Int))
def NextSaid (lo : Nat) (x : List Int × Int × Int) (w : World) (e : Ending) (w' : World) : Prop :=
  ∃ (a' : Option Addr) (n' c' : Nat), e = .returned (.tuple #[.slice a' n' c', .agg #[.int .i64 x.2.1, .int .i64 x.2.2]]) ∧ Byt lo w' (.slice a' n' c') x.1 ∧ Below w.heap.size w w'
set_option maxRecDepth 100000 in
set_option maxHeartbeats 2000000 in
theorem onext_arg {lo r c t : Nat} {sv : Value} {k x y : Int} {w : World} (R : Rdr w r c) (C : Cur w c sv t x y) :
    Calls Try.prog 61 #[.pointer (some ⟨r, 0, none⟩), .int .i64 k, .bool false] w (NextSaid lo ([], 2, (t : Int)) w) := by
  have B1 := below_new w fz
  have hh := ohere_any (w := w.alloc fz) (Box.below C B1) 2
  obtain ⟨r0, _⟩ := one_of (R.below B1)
  have HR := hide (Box.new w fz)
  have HB := hide B1
  clear B1 R C
  unfold fz at hh r0 HR HB
  go_enter Try.func61, Try.ntmps61
  go_wp2_with fail
  refine hh.mono ?_
  rintro e w2 ⟨rfl, b2⟩
  have R2 := HR.out.below b2
  obtain ⟨k0, k1, f0, f1⟩ := R2.two
  have HR2 := hide R2
  have HB2 := hide (HB.out.trans (Below.mono b2 HB.out.size))
  clear hh R2 b2 r0 HR HB
  go_wp2
  clear k0 k1 f0 f1
  obtain ⟨g0, g1, _, _⟩ := (HR2.out.set2 (.int .i64 2) (.int .i64 (t : Nat))).two
  have HBZ := (HB2.out.setCell (p := ⟨w.heap.size, 0, none⟩) (Nat.le_refl _) (.int .i64 2)).setCell (p := ⟨w.heap.size, 1, none⟩) (Nat.le_refl _) (.int .i64 (t : Nat))
  refine bodyPost_ret (v := .tuple #[.slice none 0 0, .agg #[.int .i64 2, .int .i64 (t : Nat)]]) (by simp [results, Try.f61, go_sem, g0, g1]) rfl ?_
  exact ⟨none, 0, 0, rfl, Byt.nil _ _, HBZ⟩
set_option maxRecDepth 100000 in
set_option maxHeartbeats 2000000 in
theorem onext_short {lo r c t n cap : Nat} {a : Option Addr} {k x y : Int} {w : World} (R : Rdr w r c) (C : Cur w c (.slice a n cap) t x y) (ht : t ≤ n) (hn : n ≤ 1000000) (h : (n : Int) - t < k) :
    Calls Try.prog 61 #[.pointer (some ⟨r, 0, none⟩), .int .i64 k, .bool true] w (NextSaid lo ([], 7, (n : Int)) w) := by
  have B1 := below_new w fz
  obtain ⟨r0, _⟩ := one_of (R.below B1)
  obtain ⟨c0, c1, _, _, _, _, _, _⟩ := four_cells (Box.below C B1)
  have hw : IntKind.i64.wrap ((n : Int) - (t : Int)) = (n : Int) - (t : Int) := by rw [IntKind.wrap_i64]; omega
  clear B1 R C
  unfold fz at r0 c0 c1
  go_enter Try.func61, Try.ntmps61
  go_wp2_with fail
  go_region
  go_wp2_with fail
  go_region
  all_goals
    go_wp2
    refine bodyPost_ret (v := .tuple #[.slice none 0 0, .agg #[.int .i64 7, .int .i64 (n : Nat)]]) (by simp [results, Try.f61, go_sem]) rfl ?_
    exact ⟨none, 0, 0, rfl, Byt.nil _ _, (((Below.refl _ w).drew.drew).alloc (Nat.le_refl _) _)⟩
set_option maxRecDepth 100000 in
set_option maxHeartbeats 2000000 in
theorem onext_some {lo r c t n cap k g o : Nat} {x y : Int} {zs : List Int} {w : World} (R : Rdr w r c) (C : Cur w c (.slice (some ⟨g, o, none⟩) n cap) t x y) (X : Byt lo w (.slice (some ⟨g, o, none⟩) n cap) zs) (hn : n ≤ 1000000) (h : t + k ≤ n) :
    Calls Try.prog 61 #[.pointer (some ⟨r, 0, none⟩), .int .i64 k, .bool true] w (NextSaid lo ((zs.drop t).take k, 0, 0) w) := by
  have B1 := below_new w fz
  obtain ⟨r0, _⟩ := one_of (R.below B1)
  obtain ⟨c0, c1, _, _, _, _, _, _⟩ := four_cells (Box.below C B1)
  have hnc := X.len.2
  have hw : IntKind.i64.wrap ((n : Int) - (t : Int)) = (n : Int) - (t : Int) := by rw [IntKind.wrap_i64]; omega
  have hl : ¬ ((n : Int) - (t : Int) < (k : Int)) := by omega
  have hw2 : IntKind.i64.wrap ((t : Int) + (k : Int)) = (t : Int) + (k : Int) := by rw [IntKind.wrap_i64]; omega
  have HM := hide (byt_mid X h)
  have hk : t + k - t = k := by omega
  have HK := hide hk
  clear B1 R C X h hk
  unfold fz at r0 c0 c1
  go_enter Try.func61, Try.ntmps61
  go_wp2_with fail
  go_region
  go_wp2_with fail
  go_region
  all_goals
    rw [HK.out]
    obtain ⟨A, hA⟩ : ∃ A, (if cap = t then some (⟨g, o, none⟩ : Addr) else some ⟨g, o + t, none⟩) = A := ⟨_, rfl⟩
    have hm := HM.out
    rw [hA] at hm ⊢
    have HM2 := hide hm
    clear hm hA
    go_wp2
    refine bodyPost_ret (v := .tuple #[.slice A k (cap - t), .agg #[.int .i64 0, .int .i64 0]]) (by simp [results, Try.f61, go_sem]) rfl ?_
    exact ⟨A, k, cap - t, rfl, HM2.out.below (show Below w.heap.size w _ from ((Below.refl _ w).alloc (Nat.le_refl _) _).drew.drew), (((Below.refl _ w).drew.drew).alloc (Nat.le_refl _) _)⟩
set_option maxRecDepth 100000 in
set_option maxHeartbeats 2000000 in
theorem onext_null {lo r c cap : Nat} {p : Addr} {x y : Int} {w : World} (R : Rdr w r c) (C : Cur w c (.slice (some p) 0 cap) 0 x y) :
    Calls Try.prog 61 #[.pointer (some ⟨r, 0, none⟩), .int .i64 0, .bool true] w (NextSaid lo ([], 0, 0) w) := by
  have B1 := below_new w fz
  obtain ⟨r0, _⟩ := one_of (R.below B1)
  obtain ⟨c0, c1, _, _, _, _, _, _⟩ := four_cells (Box.below C B1)
  clear B1 R C
  unfold fz at r0 c0 c1
  go_enter Try.func61, Try.ntmps61
  go_wp2_with fail
  go_region
  go_wp2_with fail
  go_region
  all_goals
    go_wp2
    refine bodyPost_ret (v := .tuple #[.slice (some p) 0 cap, .agg #[.int .i64 0, .int .i64 0]]) (by simp [results, Try.f61, go_sem]) rfl ?_
    exact ⟨some p, 0, cap, rfl, Byt.empty _ _ _ _, (((Below.refl _ w).drew.drew).alloc (Nat.le_refl _) _)⟩
set_option maxRecDepth 100000 in
set_option maxHeartbeats 2000000 in
theorem onext_none {lo r c cap : Nat} {x y : Int} {w : World} (R : Rdr w r c) (C : Cur w c (.slice none 0 cap) 0 x y) :
    Calls Try.prog 61 #[.pointer (some ⟨r, 0, none⟩), .int .i64 0, .bool true] w (NextSaid lo ([], 0, 0) w) := by
  have B1 := below_new w fz
  obtain ⟨r0, _⟩ := one_of (R.below B1)
  obtain ⟨c0, c1, _, _, _, _, _, _⟩ := four_cells (Box.below C B1)
  clear B1 R C
  unfold fz at r0 c0 c1
  go_enter Try.func61, Try.ntmps61
  go_wp2_with fail
  go_region
  go_wp2_with fail
  go_region
  all_goals
    go_wp2
    refine bodyPost_ret (v := .tuple #[.slice none 0 cap, .agg #[.int .i64 0, .int .i64 0]]) (by simp [results, Try.f61, go_sem]) rfl ?_
    exact ⟨none, 0, cap, rfl, Byt.empty _ _ _ _, (((Below.refl _ w).drew.drew).alloc (Nat.le_refl _) _)⟩
theorem onext_any {lo r c t n cap : Nat} {a : Option Addr} {k x y : Int} {zs : List Int} {w : World} (R : Rdr w r c) (C : Cur w c (.slice a n cap) t x y) (X : Byt lo w (.slice a n cap) zs) (ht : t ≤ n) (hn : n ≤ 1000000) (may : Bool) (hk : may = true → 0 ≤ k) :
    Calls Try.prog 61 #[.pointer (some ⟨r, 0, none⟩), .int .i64 k, .bool may] w (NextSaid lo (nextR zs t k may) w) := by
  have hz := X.len.1
  cases may with
  | false => exact onext_arg R C
  | true =>
    unfold nextR
    rw [if_pos rfl]
    by_cases h : (n : Int) - t < k
    · rw [if_pos (by omega), ← hz]
      exact onext_short R C ht hn h
    · rw [if_neg (by omega)]
      obtain ⟨K, rfl⟩ := Int.eq_ofNat_of_zero_le (hk rfl)
      show Calls Try.prog 61 #[.pointer (some ⟨r, 0, none⟩), .int .i64 (K : Nat), .bool true] w (NextSaid lo ((zs.drop t).take K, 0, 0) w)
      by_cases h0 : n = 0
      · subst h0
        obtain rfl : zs = [] := List.length_eq_zero_iff.1 hz.symm
        obtain rfl : t = 0 := by omega
        obtain rfl : K = 0 := by omega
        cases a with
        | none => exact onext_none R C
        | some p => exact onext_null R C
      · obtain ⟨g, o, rfl, _, _⟩ := X.row (by omega)
        exact onext_some R C X hn (by omega)
theorem Byt.off {lo : Nat} {W : World} {a : Option Addr} {n cap k : Nat} {zs : List Int} {cs : Array Value} {t : TypeId} (h : Byt lo W (.slice a n cap) zs) (hk : Box W k (.cells cs t (0, 0))) (hs : ∀ (i : Nat) (x : Int), cs[i]? ≠ some (.int .u8 x)) (hz : zs ≠ []) : ∀ g o, a = some ⟨g, o, none⟩ → g ≠ k := by
  rintro g o rfl rfl
  have hl := h.len.1
  have hc := (h.cell (j := 0) (by rw [hl]; exact List.length_pos_iff.2 hz)).1
  rw [cell_of_heap hk.what (o + 0)] at hc
  exact hs _ _ hc
theorem Byt.keep {F : Nat → Prop} {lo : Nat} {A B : World} {a : Option Addr} {n cap : Nat} {zs : List Int} (h : Byt lo A (.slice a n cap) zs) (hs : Spared F A B) (hF : zs ≠ [] → ∀ g o, a = some ⟨g, o, none⟩ → ¬ F g) : Byt lo B (.slice a n cap) zs := by
  obtain ⟨hw, a', cap', e, h1, h3⟩ := h
  simp only [Value.slice.injEq] at e
  obtain ⟨rfl, rfl, rfl⟩ := e
  refine ⟨hw, _, _, rfl, h1, fun hz => ?_⟩
  obtain ⟨b, off, e1, e2, e3, e4, e5⟩ := h3 hz
  have hb := hs.same b e3 (hF hz b off e1)
  exact ⟨b, off, e1, e2, Nat.lt_of_lt_of_le e3 hs.size, fun j hj => (World.cell?_of_block (a := ⟨b, off + j, none⟩) hb).trans (e4 j hj), fun j hj => (World.frozen?_of_block (a := ⟨b, off + j, none⟩) hb).trans (e5 j hj)⟩
theorem cur_noOct (sv : Value) (hs : ∀ k x, sv ≠ .int k x) (a e f : Int) : ∀ (i : Nat) (x : Int), (#[sv, .int .i64 a, .int .i64 e, .int .i64 f] : Array Value)[i]? ≠ some (.int .u8 x) := fun i x h => by
  match i with
  | 0 => simp at h; exact hs _ _ h
  | 1 => simp at h
  | 2 => simp at h
  | 3 => simp at h
  | i + 4 => simp at h
structure PR (lo : Nat) (W : World) (r c : Nat) (a : Option Addr) (n cap : Nat) (zs : List Int) (s : RS) : Prop where
  rdr : Rdr W r c
  cur : Cur W c (.slice a n cap) s.at_ s.er s.fa
  byt : Byt lo W (.slice a n cap) zs
  ok : s.Ok zs
  small : n ≤ 100000
theorem PR.ne {lo r c n cap : Nat} {a : Option Addr} {zs : List Int} {s : RS} {W : World} (h : PR lo W r c a n cap zs s) : r ≠ c := Box.apart h.rdr h.cur (by decide)
theorem PR.below {lo r c n cap : Nat} {a : Option Addr} {zs : List Int} {s : RS} {A B : World} (h : PR lo A r c a n cap zs s) (hb : Below A.heap.size A B) : PR lo B r c a n cap zs s :=
  ⟨Box.below h.rdr hb, Box.below h.cur hb, h.byt.below hb, h.ok, h.small⟩
theorem PR.off {lo r c n cap : Nat} {a : Option Addr} {zs : List Int} {s : RS} {A : World} (h : PR lo A r c a n cap zs s) (hz : zs ≠ []) : ∀ g o, a = some ⟨g, o, none⟩ → g ≠ c := h.byt.off h.cur (cur_noOct _ (fun _ _ e => by cases e) _ _ _) hz
theorem enter_oRGet1 (args : Array Value) (w : World) : (callFunc 60 args).run Try.prog w = .ok (.enter 60 args) w := by kernel_rfl
set_option maxRecDepth 100000 in
set_option maxHeartbeats 1000000 in
theorem ornone_no {r c : Nat} {w : World} (R : Rdr w r c) : Calls Try.prog 58 #[.pointer (some ⟨r, 0, none⟩)] w fun e w' => e = .returned (.bool false) ∧ w' = w := by
  obtain ⟨h, _⟩ := one_of R
  go_enter Try.func58, Try.ntmps58
  go_wp2
  go_ret
  exact ⟨rfl, rfl⟩
def RawOn (c N B : Nat) (a : Option Addr) (n cap : Nat) (x : List Int × RS) (W : World) (e : Ending) (w2 : World) : Prop :=
  ∃ (er' fa' : Int) (b : Option Addr) (m d : Nat), e = .returned (.agg #[.int .i64 x.2.er, .int .i64 x.2.fa]) ∧ Cur w2 c (.slice a n cap) x.2.at_ er' fa' ∧ Spared (fun k => k = c ∨ k = N) W w2 ∧ Box w2 N (.cells #[.slice b m d] 28) ∧ Byt B w2 (.slice b m d) x.1
theorem one_noOct (v : Value) (hs : ∀ x, v ≠ .int .u8 x) : ∀ (i : Nat) (x : Int), (#[v] : Array Value)[i]? ≠ some (.int .u8 x) := fun i x h => by
  match i with
  | 0 => simp at h; exact hs _ h
  | i + 1 => simp at h
theorem PR.on {lo r c n cap N : Nat} {a : Option Addr} {zs : List Int} {s s' : RS} {v : Value} {t : TypeId} {w w3 : World} (H : PR lo w r c a n cap zs s) (hN : Box w N (.cells #[v] t (0, 0))) (ht : t ≠ 87) (hv : ∀ x, v ≠ .int .u8 x) (hs : s'.Ok zs) (C : Cur w3 c (.slice a n cap) s'.at_ s'.er s'.fa) (S : Spared (fun k => k = c ∨ k = N) w w3) : PR lo w3 r c a n cap zs s' := by
  refine ⟨Box.spared H.rdr S (fun h => h.elim (fun h => H.ne h) (fun h => Box.apart hN H.rdr ht h.symm)), C, H.byt.keep S (fun hz g o e h => ?_), hs, H.small⟩
  rcases h with h | h
  · exact H.off hz g o e h
  · exact H.byt.off hN (one_noOct v hv) hz g o e h
set_option maxRecDepth 100000 in
set_option maxHeartbeats 1000000 in
theorem onewr_any {lo : Nat} {a : Option Addr} {n cap : Nat} {zs : List Int} {w : World} (X : Byt lo w (.slice a n cap) zs) (hn : n ≤ 100000) :
    Calls Try.prog 43 #[.slice a n cap] w fun e w' => ∃ (r c : Nat) (b : Option Addr) (d : Nat), e = .returned (.pointer (some ⟨r, 0, none⟩)) ∧ PR w.heap.size w' r c b n d zs ⟨0, 0, 0⟩ ∧ w.heap.size ≤ r ∧ w.heap.size ≤ c ∧ Below w.heap.size w w' := by
  have hcl := clone_any X (by omega)
  have HN := hide hn
  clear X hn
  go_enter Try.func43, Try.ntmps43
  go_wp2_with fail
  refine hcl.mono ?_
  rintro e w2 ⟨b, d, rfl, S, b2⟩
  have B1 := below_new w2 (.cells #[.slice b n d, .int .i64 0, .int .i64 0, .int .i64 0] 76)
  have C1 := Box.new w2 (.cells #[.slice b n d, .int .i64 0, .int .i64 0, .int .i64 0] 76)
  have B2 := below_new (w2.alloc (.cells #[.slice b n d, .int .i64 0, .int .i64 0, .int .i64 0] 76)) (.cells #[.pointer (some ⟨w2.heap.size, 0, none⟩)] 87)
  have P2 := Box.put (w := w2.alloc (.cells #[.slice b n d, .int .i64 0, .int .i64 0, .int .i64 0] 76)) (k := w2.heap.size + 1) (.cells #[.pointer (some ⟨w2.heap.size, 0, none⟩)] 87) (by simp)
  have BB := B1.trans (B2.mono B1.size)
  have HB := hide (b2.trans (BB.mono b2.size))
  have HP : Hid (PR w.heap.size ((w2.alloc (.cells #[.slice b n d, .int .i64 0, .int .i64 0, .int .i64 0] 76)).alloc (.cells #[.pointer (some ⟨w2.heap.size, 0, none⟩)] 87)) (w2.heap.size + 1) w2.heap.size b n d zs ⟨0, 0, 0⟩) := ⟨P2, C1.below B2, S.below BB, RS.Ok.start zs, HN.out⟩
  have HZ := hide b2.size
  clear hcl S b2 B1 C1 B2 P2 BB
  go_wp2
  go_ret
  exact ⟨w2.heap.size + 1, w2.heap.size, b, d, rfl, HP.out, Nat.le_succ_of_le HZ.out, HZ.out, HB.out⟩
set_option maxRecDepth 100000 in
set_option maxHeartbeats 1000000 in
theorem orest_any {lo r c n cap : Nat} {a : Option Addr} {zs : List Int} {s : RS} {w : World} (H : PR lo w r c a n cap zs s) :
    Calls Try.prog 57 #[.pointer (some ⟨r, 0, none⟩)] w fun e w' => e = .returned (.int .i64 (restR zs s)) ∧ Below w.heap.size w w' := by
  have hno := ornone_no H.rdr
  obtain ⟨r0, _⟩ := one_of H.rdr
  obtain ⟨c0, c1, c2, _, _, _, _, _⟩ := four_cells H.cur
  have hz := H.byt.len.1
  have hle := H.ok.1
  have hsm := H.small
  unfold restR
  obtain ⟨t, er, fa⟩ := s
  dsimp only at c1 c2 hle ⊢
  rw [← hz] at hle ⊢
  by_cases h : er = 0
  · subst h
    rw [if_pos rfl]
    have hw : IntKind.i64.wrap ((n : Int) - (t : Int)) = (n : Int) - (t : Int) := by rw [IntKind.wrap_i64]; omega
    clear H hz hle hsm
    go_enter Try.func57, Try.ntmps57
    go_wp2_with fail
    refine hno.mono ?_
    rintro e w1 ⟨rfl, rfl⟩
    clear hno
    go_wp2_with fail
    go_region
    go_wp2
    go_ret
    exact ⟨rfl, (Below.refl _ w1).drew⟩
  · rw [if_neg h]
    clear H hz hle hsm
    go_enter Try.func57, Try.ntmps57
    go_wp2_with fail
    refine hno.mono ?_
    rintro e w1 ⟨rfl, rfl⟩
    clear hno
    go_wp2
    go_ret
    exact ⟨rfl, Below.refl _ _⟩
set_option maxRecDepth 100000 in
set_option maxHeartbeats 2000000 in
theorem oend_any {lo r c n cap : Nat} {a : Option Addr} {zs : List Int} {s : RS} {w : World} (H : PR lo w r c a n cap zs s) :
    Calls Try.prog 46 #[.pointer (some ⟨r, 0, none⟩)] w fun e w' => e = .returned (.agg #[.int .i64 (endR zs s).1, .int .i64 (endR zs s).2]) ∧ Below w.heap.size w w' := by
  have B1 := below_new w fz
  have H1 := H.below B1
  have hno := ornone_no H1.rdr
  have hre := orest_any H1
  have HR := hide (Box.new w fz)
  have HB := hide B1
  have HH := hide H1
  have hz := H.byt.len.1
  have hle := H.ok.1
  obtain ⟨r0, _⟩ := one_of H1.rdr
  obtain ⟨c0, c1, c2, c3, _, _, _, _⟩ := four_cells H1.cur
  clear H H1 B1
  unfold fz at hno hre r0 c0 c1 c2 c3
  by_cases h : s.er = 0 ∧ s.at_ < zs.length
  · have he : endR zs s = (4, (s.at_ : Int)) := if_pos h
    have hq : 0 < restR zs s := by unfold restR; rw [if_pos h.1]; omega
    rw [he]
    obtain ⟨R, hR⟩ : ∃ R, restR zs s = R := ⟨_, rfl⟩
    rw [hR] at hre hq
    clear hR he hz hle h
    go_enter Try.func46, Try.ntmps46
    go_wp2_with fail
    refine hno.mono ?_
    rintro e w1 ⟨rfl, rfl⟩
    clear hno
    go_wp2_with fail
    refine hre.mono ?_
    rintro e w2 ⟨rfl, b2⟩
    have H2 := HH.out.below b2
    have R2 := HR.out.below b2
    have HB2 := hide (HB.out.trans (Below.mono b2 HB.out.size))
    obtain ⟨q0, _⟩ := one_of H2.rdr
    have hh := ohere_any H2.cur 4
    have HR2 := hide R2
    clear hre b2 r0 c0 c1 c2 c3 HR HB HH H2 R2
    go_wp2_with fail
    refine hh.mono ?_
    rintro e w3 ⟨rfl, b3⟩
    have R3 := HR2.out.below b3
    have HB3 := hide (HB2.out.trans (b3.mono HB2.out.size))
    obtain ⟨k0, k1, f0, f1⟩ := R3.two
    have HR3 := hide R3
    clear hh R3 b3 HR2 HB2
    go_wp2
    clear k0 k1 f0 f1
    obtain ⟨g0, g1, _, _⟩ := (HR3.out.set2 (.int .i64 4) (.int .i64 (s.at_ : Nat))).two
    have HBZ := (HB3.out.setCell (p := ⟨w.heap.size, 0, none⟩) (Nat.le_refl _) (.int .i64 4)).setCell (p := ⟨w.heap.size, 1, none⟩) (Nat.le_refl _) (.int .i64 (s.at_ : Nat))
    refine bodyPost_ret (v := .agg #[.int .i64 4, .int .i64 (s.at_ : Nat)]) (by simp [results, Try.f46, go_sem, g0, g1]) rfl ?_
    exact ⟨rfl, HBZ⟩
  · have he : endR zs s = (s.er, s.fa) := if_neg h
    have hq : restR zs s = 0 := by
      unfold restR
      by_cases h0 : s.er = 0
      · have : ¬ s.at_ < zs.length := fun h1 => h ⟨h0, h1⟩
        rw [if_pos h0]; omega
      · rw [if_neg h0]
    rw [he]
    rw [hq] at hre
    clear he hz hle h hq
    go_enter Try.func46, Try.ntmps46
    go_wp2_with fail
    refine hno.mono ?_
    rintro e w1 ⟨rfl, rfl⟩
    clear hno
    go_wp2_with fail
    refine hre.mono ?_
    rintro e w2 ⟨rfl, b2⟩
    have H2 := HH.out.below b2
    have R2 := HR.out.below b2
    have HB2 := hide (HB.out.trans (Below.mono b2 HB.out.size))
    obtain ⟨q0, _⟩ := one_of H2.rdr
    obtain ⟨_, _, d2, d3, _, _, _, _⟩ := four_cells H2.cur
    obtain ⟨k0, k1, f0, f1⟩ := R2.two
    have HR2 := hide R2
    clear hre b2 r0 c0 c1 c2 c3 HR HB HH H2 R2
    go_wp2
    clear k0 k1 f0 f1 d2 d3 q0
    obtain ⟨g0, g1, _, _⟩ := (HR2.out.set2 (.int .i64 s.er) (.int .i64 s.fa)).two
    have HBZ := (HB2.out.setCell (p := ⟨w.heap.size, 0, none⟩) (Nat.le_refl _) (.int .i64 s.er)).setCell (p := ⟨w.heap.size, 1, none⟩) (Nat.le_refl _) (.int .i64 s.fa)
    refine bodyPost_ret (v := .agg #[.int .i64 s.er, .int .i64 s.fa]) (by simp [results, Try.f46, go_sem, g0, g1]) rfl ?_
    exact ⟨rfl, HBZ⟩
structure GetMid (lo : Nat) (w : World) (X : List Int × Int × Int) (b : Option Addr) (m d F : Nat) (W : World) : Prop where
  below : Below w.heap.size w W
  fault : Box W F (.cells #[.int .i64 X.2.1, .int .i64 X.2.2] 71)
  res : Box W w.heap.size fz
  byt : Byt lo W (.slice b m d) X.1
  ne : w.heap.size < F
def GetOn (c N : Nat) (a : Option Addr) (n cap : Nat) (x : Nat × RS) (W : World) (e : Ending) (w2 : World) : Prop :=
  ∃ (er' fa' : Int), e = .returned (.agg #[.int .i64 x.2.er, .int .i64 x.2.fa]) ∧ Cur w2 c (.slice a n cap) x.2.at_ er' fa' ∧ Spared (fun k => k = c ∨ k = N) W w2 ∧ Box w2 N (.cells #[.int .i64 (x.1 : Nat)] 3)
theorem getR_bad {zs : List Int} {s : RS} {k : Int} (h0 : s.er = 0) (hb : ¬ (nextR zs s.at_ k (decide (IsW k))).2.1 = 0) : getR zs s k = (0, ⟨s.at_, (nextR zs s.at_ k (decide (IsW k))).2.1, (nextR zs s.at_ k (decide (IsW k))).2.2⟩) := by
  unfold getR nextR at *
  rw [if_pos h0]
  by_cases hw : IsW k
  · rw [if_pos hw, decide_eq_true hw, if_pos rfl]
    rw [decide_eq_true hw, if_pos rfl] at hb
    by_cases hl : (zs.length : Int) - s.at_ < k
    · rw [if_pos hl, if_pos hl]
    · rw [if_neg hl] at hb
      exact absurd rfl hb
  · rw [if_neg hw, decide_eq_false hw]
    rfl
theorem getR_good {zs : List Int} {s : RS} {k : Int} (h0 : s.er = 0) (hb : (nextR zs s.at_ k (decide (IsW k))).2.1 = 0) : IsW k ∧ s.at_ + k.toNat ≤ zs.length + s.at_ ∧ (k : Int) ≤ (zs.length : Int) - s.at_ ∧ (nextR zs s.at_ k (decide (IsW k))).1 = (zs.drop s.at_).take k.toNat ∧ getR zs s k = if nb (nextR zs s.at_ k (decide (IsW k))).1 < 9223372036854775808 then (nb (nextR zs s.at_ k (decide (IsW k))).1, ⟨s.at_ + k.toNat, 0, 0⟩) else (0, ⟨s.at_, 3, s.at_⟩) := by
  unfold nextR at hb ⊢
  by_cases hw : IsW k
  · rw [decide_eq_true hw, if_pos rfl] at hb
    by_cases hl : (zs.length : Int) - s.at_ < k
    · rw [if_pos hl] at hb
      exact absurd hb (by show ¬ (7 : Int) = 0; decide)
    · rw [decide_eq_true hw, if_pos rfl, if_neg hl]
      have : 0 < k := by rcases hw with h | h | h | h <;> omega
      refine ⟨hw, by omega, by omega, rfl, ?_⟩
      unfold getR
      rw [if_pos h0, if_pos hw, if_neg hl]
  · rw [decide_eq_false hw] at hb
    exact absurd hb (by show ¬ (2 : Int) = 0; decide)
theorem leaf {P G : Prop} (h : P → G) (p : P) : G := h p
theorem GetMid.late {lo m d : Nat} {w w2 : World} {X : List Int × Int × Int} {b : Option Addr} (hb : Below (w.alloc fz).heap.size (w.alloc fz) w2) (S : Byt lo w2 (.slice b m d) X.1) :
    GetMid lo w X b m d w2.heap.size (w2.alloc (.cells #[.int .i64 X.2.1, .int .i64 X.2.2] 71)) := by
  have B1 := below_new w fz
  have B3 := below_new w2 (.cells #[.int .i64 X.2.1, .int .i64 X.2.2] 71)
  have hB := hb.trans (B3.mono hb.size)
  exact ⟨B1.trans (hB.mono B1.size), Box.new w2 _, (Box.new w fz).below hB, S.below B3, Nat.lt_of_lt_of_le (Box.new w fz).lt hb.size⟩
theorem GetMid.early {lo m d : Nat} {w w2 : World} {X : List Int × Int × Int} {b : Option Addr} (hb : Below ((w.alloc fz).alloc fz).heap.size ((w.alloc fz).alloc fz) w2) (S : Byt lo w2 (.slice b m d) X.1) :
    GetMid lo w X b m d (w.heap.size + 1) ((w2.setCell ⟨w.heap.size + 1, 0, none⟩ (.int .i64 X.2.1)).setCell ⟨w.heap.size + 1, 1, none⟩ (.int .i64 X.2.2)) := by
  have B1 := below_new w fz
  have B2 := below_new (w.alloc fz) fz
  have F2 := (Box.put (w := w.alloc fz) (k := w.heap.size + 1) fz (by simp)).below hb
  have R2 := (((Box.new w fz).below B2).below hb)
  have B := B1.trans ((B2.trans (hb.mono B2.size)).mono B1.size)
  refine ⟨(B.setCell (p := ⟨w.heap.size + 1, 0, none⟩) (Nat.le_succ _) _).setCell (p := ⟨w.heap.size + 1, 1, none⟩) (Nat.le_succ _) _, F2.set2 _ _, Box.aside (Box.aside R2 0 _ (by omega)) 1 _ (by omega), ?_, Nat.lt_succ_self _⟩
  have S5 : Spared (fun k => k = w.heap.size + 1) w2 ((w2.setCell ⟨w.heap.size + 1, 0, none⟩ (.int .i64 X.2.1)).setCell ⟨w.heap.size + 1, 1, none⟩ (.int .i64 X.2.2)) := ((Spared.refl (fun k => k = w.heap.size + 1) w2).setCell (k := w.heap.size + 1) rfl 0 _).setCell (k := w.heap.size + 1) rfl 1 _
  exact S.keep S5 (fun hz g o e h => S.off F2 (fun i x e => by
    match i with
    | 0 => simp at e
    | 1 => simp at e
    | i + 2 => simp at e) hz g o e h)
set_option maxRecDepth 100000 in
set_option maxHeartbeats 4000000 in
theorem orget1_any {lo r c n cap A D N : Nat} {a : Option Addr} {zs : List Int} {s : RS} {k : Int} {w : World} (H : PR lo w r c a n cap zs s) (hA : Box w A (.cells #[.pointer (some ⟨r, 0, none⟩)] 66)) (hD : Box w D (.cells #[.int .i64 k] 3)) (hN : Box w N (.cells #[.int .i64 0] 3)) (h0 : s.er = 0) (hDN : ¬ D = N) (may : Bool) (hm : may = decide (IsW k)) :
    Calls Try.prog 60 #[.pointer (some ⟨A, 0, none⟩), .pointer (some ⟨D, 0, none⟩), .pointer (some ⟨N, 0, none⟩)] w (GetOn c N a n cap (getR zs s k) w) := by
  have hi : ∀ W, Calls Try.prog 51 #[.int .i64 k] W fun e w' => e = .returned (.bool may) ∧ w' = W := fun W => by rw [hm]; exact oisw_any k W
  have hx : ∀ W, Below w.heap.size w W → Calls Try.prog 61 #[.pointer (some ⟨r, 0, none⟩), .int .i64 k, .bool may] W (NextSaid lo (nextR zs s.at_ k may) W) := fun W hW =>
    onext_any (Box.below H.rdr hW) (Box.below H.cur hW) (H.byt.below hW) (by rw [H.byt.len.1]; exact H.ok.1) (Nat.le_trans H.small (by decide)) may (fun h => by rw [hm] at h; have := of_decide_eq_true h; unfold IsW at this; omega)
  obtain ⟨X, hX⟩ : ∃ X, nextR zs s.at_ k may = X := ⟨_, rfl⟩
  rw [hX] at hx
  have HM := hide hm
  have H0 := hide h0
  have HDN0 := hide hDN
  have HI := hide hi
  have HX := hide hx
  have HA := hide hA
  have HD := hide hD
  have HN := hide hN
  have HH := hide H
  have HEX := hide hX
  have hkeep : ∀ V : World, Below w.heap.size w V → V.cell? ⟨A, 0, none⟩ = some (.pointer (some ⟨r, 0, none⟩)) ∧ V.cell? ⟨D, 0, none⟩ = some (.int .i64 k) := fun V hV => ⟨(one_of (HA.out.below hV)).1, (one_of (HD.out.below hV)).1⟩
  have HK := hide hkeep
  have B1 := below_new w fz
  have HB1 := hide B1
  have hs0 := hkeep _ B1
  clear H hA hD hN hX hi hx hkeep B1 hm h0 hDN
  unfold fz at hs0
  go_enter Try.func60, Try.ntmps60
  go_wp2_with fail
  apply leaf
  · intro HEND
    refine wp_region_held_drew (S := fun V : World => V.cell? ⟨A, 0, none⟩ = some (.pointer (some ⟨r, 0, none⟩)) ∧ V.cell? ⟨D, 0, none⟩ = some (.int .i64 k)) (by kernel_rfl) hs0 (fun hHeld => ?_)
    refine wpAnyH_take (i := 0) (v := ?_) rfl (by kernel_rfl) (by kernel_rfl) (by kernel_rfl) (fun _ _ _ h => h) (Or.inl ⟨by rfl, ?_⟩) (by assumption) ?_
    rotate_left
    · intro w hSw
      try dsimp only at hSw
      go_simp
      try with_reducible rfl
    simp only [Act.put, List.setIfInBounds_toArray, List.set_cons_zero, List.set_cons_succ, List.getElem_toArray, List.getElem_cons_zero]
    refine wpAnyH_take (i := 1) (v := ?_) rfl (by kernel_rfl) (by kernel_rfl) (by kernel_rfl) (fun _ _ _ h => h) (Or.inl ⟨by rfl, ?_⟩) (by assumption) ?_
    rotate_left
    · intro w hSw
      try dsimp only at hSw
      go_simp
      try with_reducible rfl
    simp only [Act.put, List.setIfInBounds_toArray, List.set_cons_zero, List.set_cons_succ, List.getElem_toArray, List.getElem_cons_zero, List.getElem_cons_succ]
    refine wpAnyH_take (i := 2) (v := ?_) rfl (by kernel_rfl) (by kernel_rfl) (by kernel_rfl) (fun _ _ _ h => h) (Or.inl ⟨by rfl, ?_⟩) (by assumption) ?_
    rotate_left
    · intro w hSw
      try dsimp only at hSw
      go_simp
      try with_reducible rfl
    simp only [Act.put, List.setIfInBounds_toArray, List.set_cons_zero, List.set_cons_succ, List.getElem_toArray, List.getElem_cons_zero, List.getElem_cons_succ]
    refine wpAnyH_ready (rs := [3, 8]) (by kernel_rfl) (by simp) ?_
    refine AllReadyH.cons rfl (fun K hK => ?_) (AllReadyH.cons rfl (fun K hK => ?_) AllReadyH.nil)
    · have hb0 : Below w.heap.size w ((w.alloc (.cells #[.int .i64 0, .int .i64 0] 71)).drew) := HB1.out.drew
      go_simp
      go_at_call 51
      refine (HI.out _).mono ?_
      rintro e w1 ⟨rfl, hw1⟩
      obtain rfl := hw1.symm
      clear hw1
      dsimp only
      clear hHeld
      refine hK.out _ _ (HK.out _ hb0) (fun hHeld => ?_)
      clear hK K
      try simp only [Act.put, List.setIfInBounds_toArray, List.set_cons_zero, List.set_cons_succ, List.getElem_toArray, List.getElem_cons_zero, List.getElem_cons_succ]
      refine wpAnyH_ready (rs := [4, 8]) (by kernel_rfl) (by simp) ?_
      refine AllReadyH.cons rfl (fun K hK => ?_) (AllReadyH.cons rfl (fun K hK => ?_) AllReadyH.nil)
      · skip
        go_simp
        go_at_call 61
        refine (HX.out _ hb0).mono ?_
        rintro e w2 ⟨b, m, d, rfl, S, b2⟩
        dsimp only
        have hb1 := hb0.trans (b2.mono hb0.size)
        clear hHeld
        refine hK.out _ _ (HK.out _ hb1) (fun hHeld => ?_)
        clear hK K
        try simp only [Act.put, List.setIfInBounds_toArray, List.set_cons_zero, List.set_cons_succ, List.getElem_toArray, List.getElem_cons_zero, List.getElem_cons_succ]
        refine wpAnyH_take (i := 5) (v := ?_) rfl (by kernel_rfl) (by kernel_rfl) (by kernel_rfl) (fun _ _ _ h => h) (Or.inl ⟨by rfl, ?_⟩) (by assumption) ?_
        rotate_left
        · intro w hSw
          try dsimp only at hSw
          go_simp
          try with_reducible rfl
        simp only [Act.put, List.setIfInBounds_toArray, List.set_cons_zero, List.set_cons_succ, List.getElem_toArray, List.getElem_cons_zero, List.getElem_cons_succ]
        refine wpAnyH_take (i := 6) (v := ?_) rfl (by kernel_rfl) (by kernel_rfl) (by kernel_rfl) (fun _ _ _ h => h) (Or.inl ⟨by rfl, ?_⟩) (by assumption) ?_
        rotate_left
        · intro w hSw
          try dsimp only at hSw
          go_simp
          try with_reducible rfl
        simp only [Act.put, List.setIfInBounds_toArray, List.set_cons_zero, List.set_cons_succ, List.getElem_toArray, List.getElem_cons_zero, List.getElem_cons_succ]
        refine wpAnyH_take (i := 7) (v := ?_) rfl (by kernel_rfl) (by kernel_rfl) (by kernel_rfl) (fun _ _ _ h => h) (Or.inl ⟨by rfl, ?_⟩) (by assumption) ?_
        rotate_left
        · intro w hSw
          try dsimp only at hSw
          go_simp
          try with_reducible rfl
        simp only [Act.put, List.setIfInBounds_toArray, List.set_cons_zero, List.set_cons_succ, List.getElem_toArray, List.getElem_cons_zero, List.getElem_cons_succ]
        refine wpAnyH_ready (rs := [8]) (by kernel_rfl) (by simp) ?_
        refine AllReadyH.cons rfl (fun K hK => ?_) AllReadyH.nil
        go_simp
        try dsimp only
        have hb2 := hb1.trans ((below_new w2 (.cells #[.int .i64 0, .int .i64 0] 71)).mono hb1.size)
        clear hHeld
        refine hK.out _ _ (HK.out _ hb2) (fun hHeld => ?_)
        clear hK K
        try simp only [Act.put, List.setIfInBounds_toArray, List.set_cons_zero, List.set_cons_succ, List.getElem_toArray, List.getElem_cons_zero, List.getElem_cons_succ]
        refine wpAnyH_take (i := 9) (v := ?_) rfl (by kernel_rfl) (by kernel_rfl) (by kernel_rfl) (fun _ _ _ h => h) (Or.inl ⟨by rfl, ?_⟩) (by assumption) ?_
        rotate_left
        · intro w hSw
          try dsimp only at hSw
          go_simp
          try with_reducible rfl
        simp only [Act.put, List.setIfInBounds_toArray, List.set_cons_zero, List.set_cons_succ, List.getElem_toArray, List.getElem_cons_zero, List.getElem_cons_succ]
        refine wpAnyH_ready (rs := [10]) (by kernel_rfl) (by simp) ?_
        refine AllReadyH.cons rfl (fun K hK => ?_) AllReadyH.nil
        go_simp
        try dsimp only
        have hb3 := hb1.trans ((below_new w2 (.cells #[.int .i64 X.2.1, .int .i64 X.2.2] 71)).mono hb1.size)
        clear hHeld
        refine hK.out _ _ (HK.out _ hb3) (fun hHeld => ?_)
        clear hK K
        try simp only [Act.put, List.setIfInBounds_toArray, List.set_cons_zero, List.set_cons_succ, List.getElem_toArray, List.getElem_cons_zero, List.getElem_cons_succ]
        refine wpAnyH_done (by kernel_rfl) ?_ _
        clear hHeld
        have hg := GetMid.late (b := b) (X := X) (w := w) ((Below.refl _ (w.alloc fz)).drew.trans b2) S
        clear hb0 hb1 hb2 hb3 S b2
        revert hg
        generalize w2.alloc (.cells #[.int .i64 X.2.1, .int .i64 X.2.2] 71) = W
        generalize w2.heap.size = F
        revert b m d W F
        exact HEND
      · skip
        go_simp
        try dsimp only
        have hb1 : Below w.heap.size w ((w.alloc (.cells #[.int .i64 0, .int .i64 0] 71)).alloc (.cells #[.int .i64 0, .int .i64 0] 71)).drew := (HB1.out.trans ((below_new (w.alloc (.cells #[.int .i64 0, .int .i64 0] 71)) (.cells #[.int .i64 0, .int .i64 0] 71)).mono HB1.out.size)).drew
        clear hHeld
        refine hK.out _ _ (HK.out _ hb1) (fun hHeld => ?_)
        clear hK K
        try simp only [Act.put, List.setIfInBounds_toArray, List.set_cons_zero, List.set_cons_succ, List.getElem_toArray, List.getElem_cons_zero, List.getElem_cons_succ]
        refine wpAnyH_ready (rs := [4]) (by kernel_rfl) (by simp) ?_
        refine AllReadyH.cons rfl (fun K hK => ?_) AllReadyH.nil
        go_simp
        go_at_call 61
        refine (HX.out _ hb1).mono ?_
        rintro e w2 ⟨b, m, d, rfl, S, b2⟩
        dsimp only
        have hb2 := hb1.trans (b2.mono hb1.size)
        clear hHeld
        refine hK.out _ _ (HK.out _ hb2) (fun hHeld => ?_)
        clear hK K
        try simp only [Act.put, List.setIfInBounds_toArray, List.set_cons_zero, List.set_cons_succ, List.getElem_toArray, List.getElem_cons_zero, List.getElem_cons_succ]
        refine wpAnyH_take (i := 5) (v := ?_) rfl (by kernel_rfl) (by kernel_rfl) (by kernel_rfl) (fun _ _ _ h => h) (Or.inl ⟨by rfl, ?_⟩) (by assumption) ?_
        rotate_left
        · intro w hSw
          try dsimp only at hSw
          go_simp
          try with_reducible rfl
        simp only [Act.put, List.setIfInBounds_toArray, List.set_cons_zero, List.set_cons_succ, List.getElem_toArray, List.getElem_cons_zero, List.getElem_cons_succ]
        refine wpAnyH_take (i := 6) (v := ?_) rfl (by kernel_rfl) (by kernel_rfl) (by kernel_rfl) (fun _ _ _ h => h) (Or.inl ⟨by rfl, ?_⟩) (by assumption) ?_
        rotate_left
        · intro w hSw
          try dsimp only at hSw
          go_simp
          try with_reducible rfl
        simp only [Act.put, List.setIfInBounds_toArray, List.set_cons_zero, List.set_cons_succ, List.getElem_toArray, List.getElem_cons_zero, List.getElem_cons_succ]
        refine wpAnyH_take (i := 7) (v := ?_) rfl (by kernel_rfl) (by kernel_rfl) (by kernel_rfl) (fun _ _ _ h => h) (Or.inl ⟨by rfl, ?_⟩) (by assumption) ?_
        rotate_left
        · intro w hSw
          try dsimp only at hSw
          go_simp
          try with_reducible rfl
        simp only [Act.put, List.setIfInBounds_toArray, List.set_cons_zero, List.set_cons_succ, List.getElem_toArray, List.getElem_cons_zero, List.getElem_cons_succ]
        refine wpAnyH_take (i := 9) (v := ?_) rfl (by kernel_rfl) (by kernel_rfl) (by kernel_rfl) (fun _ _ _ h => h) (Or.inl ⟨by rfl, ?_⟩) (by assumption) ?_
        rotate_left
        · intro w hSw
          try dsimp only at hSw
          go_simp
          try with_reducible rfl
        simp only [Act.put, List.setIfInBounds_toArray, List.set_cons_zero, List.set_cons_succ, List.getElem_toArray, List.getElem_cons_zero, List.getElem_cons_succ]
        refine wpAnyH_ready (rs := [10]) (by kernel_rfl) (by simp) ?_
        refine AllReadyH.cons rfl (fun K hK => ?_) AllReadyH.nil
        have b3 : Below ((w.alloc fz).alloc fz).heap.size ((w.alloc fz).alloc fz) w2 := (Below.refl _ ((w.alloc fz).alloc fz)).drew.trans b2
        have hF2 := ((Box.put (w := w.alloc fz) (k := w.heap.size + 1) fz (by simp)).below b3).two
        have k0 := hF2.1
        have k1 := hF2.2.1
        have f0 := hF2.2.2.1
        have f1 := hF2.2.2.2
        clear hF2
        go_simp
        try dsimp only
        clear k0 k1 f0 f1
        have hg := GetMid.early (b := b) (X := X) (w := w) b3 S
        clear hHeld
        refine hK.out _ _ (HK.out _ hg.below) (fun hHeld => ?_)
        clear hK K
        try simp only [Act.put, List.setIfInBounds_toArray, List.set_cons_zero, List.set_cons_succ, List.getElem_toArray, List.getElem_cons_zero, List.getElem_cons_succ]
        refine wpAnyH_done (by kernel_rfl) ?_ _
        clear hHeld
        clear hb0 hb1 hb2 S b2 b3
        revert hg
        generalize (w2.setCell ⟨w.heap.size + 1, 0, none⟩ (.int .i64 X.2.1)).setCell ⟨w.heap.size + 1, 1, none⟩ (.int .i64 X.2.2) = W
        generalize w.heap.size + 1 = F
        revert b m d W F
        exact HEND
    · have hb0 : Below w.heap.size w ((w.alloc (.cells #[.int .i64 0, .int .i64 0] 71)).drew) := HB1.out.drew
      go_simp
      try dsimp only
      have hb1 : Below w.heap.size w ((w.alloc (.cells #[.int .i64 0, .int .i64 0] 71)).alloc (.cells #[.int .i64 0, .int .i64 0] 71)).drew := (HB1.out.trans ((below_new (w.alloc (.cells #[.int .i64 0, .int .i64 0] 71)) (.cells #[.int .i64 0, .int .i64 0] 71)).mono HB1.out.size)).drew
      clear hHeld
      refine hK.out _ _ (HK.out _ hb1) (fun hHeld => ?_)
      clear hK K
      try simp only [Act.put, List.setIfInBounds_toArray, List.set_cons_zero, List.set_cons_succ, List.getElem_toArray, List.getElem_cons_zero, List.getElem_cons_succ]
      refine wpAnyH_ready (rs := [3]) (by kernel_rfl) (by simp) ?_
      refine AllReadyH.cons rfl (fun K hK => ?_) AllReadyH.nil
      go_simp
      go_at_call 51
      refine (HI.out _).mono ?_
      rintro e w1 ⟨rfl, hw1⟩
      obtain rfl := hw1.symm
      clear hw1
      dsimp only
      clear hHeld
      refine hK.out _ _ (HK.out _ hb1) (fun hHeld => ?_)
      clear hK K
      try simp only [Act.put, List.setIfInBounds_toArray, List.set_cons_zero, List.set_cons_succ, List.getElem_toArray, List.getElem_cons_zero, List.getElem_cons_succ]
      refine wpAnyH_ready (rs := [4]) (by kernel_rfl) (by simp) ?_
      refine AllReadyH.cons rfl (fun K hK => ?_) AllReadyH.nil
      go_simp
      go_at_call 61
      refine (HX.out _ hb1).mono ?_
      rintro e w2 ⟨b, m, d, rfl, S, b2⟩
      dsimp only
      have hb2 := hb1.trans (b2.mono hb1.size)
      clear hHeld
      refine hK.out _ _ (HK.out _ hb2) (fun hHeld => ?_)
      clear hK K
      try simp only [Act.put, List.setIfInBounds_toArray, List.set_cons_zero, List.set_cons_succ, List.getElem_toArray, List.getElem_cons_zero, List.getElem_cons_succ]
      refine wpAnyH_take (i := 5) (v := ?_) rfl (by kernel_rfl) (by kernel_rfl) (by kernel_rfl) (fun _ _ _ h => h) (Or.inl ⟨by rfl, ?_⟩) (by assumption) ?_
      rotate_left
      · intro w hSw
        try dsimp only at hSw
        go_simp
        try with_reducible rfl
      simp only [Act.put, List.setIfInBounds_toArray, List.set_cons_zero, List.set_cons_succ, List.getElem_toArray, List.getElem_cons_zero, List.getElem_cons_succ]
      refine wpAnyH_take (i := 6) (v := ?_) rfl (by kernel_rfl) (by kernel_rfl) (by kernel_rfl) (fun _ _ _ h => h) (Or.inl ⟨by rfl, ?_⟩) (by assumption) ?_
      rotate_left
      · intro w hSw
        try dsimp only at hSw
        go_simp
        try with_reducible rfl
      simp only [Act.put, List.setIfInBounds_toArray, List.set_cons_zero, List.set_cons_succ, List.getElem_toArray, List.getElem_cons_zero, List.getElem_cons_succ]
      refine wpAnyH_take (i := 7) (v := ?_) rfl (by kernel_rfl) (by kernel_rfl) (by kernel_rfl) (fun _ _ _ h => h) (Or.inl ⟨by rfl, ?_⟩) (by assumption) ?_
      rotate_left
      · intro w hSw
        try dsimp only at hSw
        go_simp
        try with_reducible rfl
      simp only [Act.put, List.setIfInBounds_toArray, List.set_cons_zero, List.set_cons_succ, List.getElem_toArray, List.getElem_cons_zero, List.getElem_cons_succ]
      refine wpAnyH_take (i := 9) (v := ?_) rfl (by kernel_rfl) (by kernel_rfl) (by kernel_rfl) (fun _ _ _ h => h) (Or.inl ⟨by rfl, ?_⟩) (by assumption) ?_
      rotate_left
      · intro w hSw
        try dsimp only at hSw
        go_simp
        try with_reducible rfl
      simp only [Act.put, List.setIfInBounds_toArray, List.set_cons_zero, List.set_cons_succ, List.getElem_toArray, List.getElem_cons_zero, List.getElem_cons_succ]
      refine wpAnyH_ready (rs := [10]) (by kernel_rfl) (by simp) ?_
      refine AllReadyH.cons rfl (fun K hK => ?_) AllReadyH.nil
      have b3 : Below ((w.alloc fz).alloc fz).heap.size ((w.alloc fz).alloc fz) w2 := (Below.refl _ ((w.alloc fz).alloc fz)).drew.trans b2
      have hF2 := ((Box.put (w := w.alloc fz) (k := w.heap.size + 1) fz (by simp)).below b3).two
      have k0 := hF2.1
      have k1 := hF2.2.1
      have f0 := hF2.2.2.1
      have f1 := hF2.2.2.2
      clear hF2
      go_simp
      try dsimp only
      clear k0 k1 f0 f1
      have hg := GetMid.early (b := b) (X := X) (w := w) b3 S
      clear hHeld
      refine hK.out _ _ (HK.out _ hg.below) (fun hHeld => ?_)
      clear hK K
      try simp only [Act.put, List.setIfInBounds_toArray, List.set_cons_zero, List.set_cons_succ, List.getElem_toArray, List.getElem_cons_zero, List.getElem_cons_succ]
      refine wpAnyH_done (by kernel_rfl) ?_ _
      clear hHeld
      clear hb0 hb1 hb2 S b2 b3
      revert hg
      generalize (w2.setCell ⟨w.heap.size + 1, 0, none⟩ (.int .i64 X.2.1)).setCell ⟨w.heap.size + 1, 1, none⟩ (.int .i64 X.2.2) = W
      generalize w.heap.size + 1 = F
      revert b m d W F
      exact HEND
  · intro b m d W F hg
    have hcl := HH.out.cur.lt
    have HF := hg.fault
    have hFc : ¬ F = c := fun e => Box.apart HF (Box.below HH.out.cur hg.below) (by decide) e
    have hRc : ¬ w.heap.size = c := by omega
    have hcR : ¬ c = w.heap.size := by omega
    have hNl := HN.out.lt
    have hRN : ¬ w.heap.size = N := by omega
    have hNR : ¬ N = w.heap.size := by omega
    obtain ⟨k0, k1, _, _⟩ := HF.two
    obtain ⟨q0, q1, p0, p1⟩ := hg.res.two
    have HG := hide hg
    clear hg HF
    by_cases hbad : X.2.1 = 0
    · have hgood := getR_good (zs := zs) (s := s) (k := k) H0.out (by rw [← HM.out, HEX.out]; exact hbad)
      rw [← HM.out, HEX.out] at hgood
      have HGD := hide hgood
      have hX1 := hgood.2.2.2.1
      have hm8 : m ≤ 8 := by
        have := HG.out.byt.len.1
        have h1 := hgood.1
        rw [hX1, List.length_take] at this
        unfold IsW at h1
        omega
      have hv := ovalue_any HG.out.byt hm8
      obtain ⟨v, hnv⟩ : ∃ v, nb X.1 = v := ⟨_, rfl⟩
      rw [hnv] at hv
      have HV := hide hnv
      clear hgood hX1 hm8 hnv
      by_cases hbig : v < 9223372036854775808
      · have hnb : ¬ 9223372036854775807 < (v : Int) := by omega
        have hwn : IntKind.i64.wrap (v : Int) = (v : Int) := by rw [IntKind.wrap_i64]; omega
        have hcN : ¬ c = N := fun e => Box.apart HH.out.cur HN.out (by decide) e
        have hNc : ¬ N = c := fun e => hcN e.symm
        have hrN : ¬ r = N := fun e => Box.apart HH.out.rdr HN.out (by decide) e
        have hAN : ¬ A = N := fun e => Box.apart HA.out HN.out (by decide) e
        have hkl := HGD.out.2.2.1
        have hwr : IntKind.i64.wrap ((s.at_ : Int) + k) = (s.at_ : Int) + k := by
          have := HH.out.small; have := HH.out.byt.len.1; have := HH.out.ok.1; have h1 := HGD.out.1
          unfold IsW at h1
          rw [IntKind.wrap_i64]; omega
        have HBIG := hide hbig
        obtain ⟨a0, _⟩ := one_of (HA.out.below HG.out.below)
        obtain ⟨d0, _⟩ := one_of (HD.out.below HG.out.below)
        obtain ⟨n0, m0⟩ := one_of (HN.out.below HG.out.below)
        obtain ⟨r0, _⟩ := one_of (Box.below HH.out.rdr HG.out.below)
        obtain ⟨_, c1, _, _, _, f1, _, _⟩ := four_cells (Box.below HH.out.cur HG.out.below)
        have hDN := HDN0.out
        clear hkl hbig
        go_wp2_with fail
        refine hv.mono ?_
        rintro e w3 ⟨rfl, hw3⟩
        obtain rfl := hw3.symm
        clear hv hw3
        go_wp2_with fail
        go_region
        all_goals
          go_wp2
          clear k0 k1 q0 q1 p0 p1 a0 d0 n0 m0 r0 c1 f1
          have e1 : ((s.at_ + k.toNat : Nat) : Int) = (s.at_ : Int) + k := by have h1 := HGD.out.1; unfold IsW at h1; omega
          have C7 := Box.aside (Box.aside (Box.put1 (Box.aside (Box.below HH.out.cur HG.out.below) (g := N) 0 (.int .i64 (v : Nat)) hcN) 1 (.int .i64 ((s.at_ : Int) + k))) (g := w.heap.size) 0 (.int .i64 0) hcR) (g := w.heap.size) 1 (.int .i64 0) hcR
          have N7 := Box.aside (Box.aside (Box.aside (Box.put1 (HN.out.below HG.out.below) 0 (.int .i64 (v : Nat))) (g := c) 1 (.int .i64 ((s.at_ : Int) + k)) hNc) (g := w.heap.size) 0 (.int .i64 0) hNR) (g := w.heap.size) 1 (.int .i64 0) hNR
          have R7 := (Box.aside (Box.aside HG.out.res (g := N) 0 (.int .i64 (v : Nat)) hRN) (g := c) 1 (.int .i64 ((s.at_ : Int) + k)) hRc).set2 (.int .i64 0) (.int .i64 0)
          have S7 : Spared (fun k => k = c ∨ k = N ∨ k = w.heap.size) W ((((W.setCell ⟨N, 0, none⟩ (.int .i64 (v : Nat))).setCell ⟨c, 1, none⟩ (.int .i64 ((s.at_ : Int) + k))).setCell ⟨w.heap.size, 0, none⟩ (.int .i64 0)).setCell ⟨w.heap.size, 1, none⟩ (.int .i64 0)) := ((((Spared.refl (fun k => k = c ∨ k = N ∨ k = w.heap.size) W).setCell (k := N) (.inr (.inl rfl)) 0 _).setCell (k := c) (.inl rfl) 1 _).setCell (k := w.heap.size) (.inr (.inr rfl)) 0 _).setCell (k := w.heap.size) (.inr (.inr rfl)) 1 _
          obtain ⟨g0, g1, _, _⟩ := R7.two
          have W7 : GetOn c N a n cap (getR zs s k) w (.returned (.agg #[.int .i64 0, .int .i64 0])) ((((W.setCell ⟨N, 0, none⟩ (.int .i64 (v : Nat))).setCell ⟨c, 1, none⟩ (.int .i64 ((s.at_ : Int) + k))).setCell ⟨w.heap.size, 0, none⟩ (.int .i64 0)).setCell ⟨w.heap.size, 1, none⟩ (.int .i64 0)).drew := by
            have hx := HGD.out.2.2.2.2
            rw [HV.out, if_pos HBIG.out] at hx
            rw [hx]
            refine ⟨s.er, s.fa, rfl, ?_, (Spared.of_below _ HG.out.below).next S7.drew (fun i hi h => ?_), N7.drew⟩
            · show Cur _ c (.slice a n cap) ((s.at_ + k.toNat : Nat) : Int) s.er s.fa
              rw [e1]
              exact C7.drew
            · rcases h with h | h | h
              · exact .inl h
              · exact .inr h
              · omega
          refine bodyPost_ret (v := .agg #[.int .i64 0, .int .i64 0]) (by simp [results, Try.f60, go_sem, g0, g1]) rfl ?_
          exact W7
      · have hnb : 9223372036854775807 < (v : Int) := by omega
        have HBIG := hide hbig
        have hh := ohere_any (Box.below HH.out.cur HG.out.below) 3
        obtain ⟨a0, _⟩ := one_of (HA.out.below HG.out.below)
        obtain ⟨r0, _⟩ := one_of (Box.below HH.out.rdr HG.out.below)
        clear hbig
        go_wp2_with fail
        refine hv.mono ?_
        rintro e w3 ⟨rfl, hw3⟩
        obtain rfl := hw3.symm
        clear hv hw3
        go_wp2_with fail
        refine hh.mono ?_
        rintro e w4 ⟨rfl, b4⟩
        have R4 := HG.out.res.below b4
        have HB4 := hide (HG.out.below.trans (b4.mono HG.out.below.size))
        have HR4 := hide R4
        clear hh b4 k0 k1 q0 q1 p0 p1 a0 r0
        obtain ⟨q0, q1, p0, p1⟩ := R4.two
        clear R4
        go_wp2
        clear q0 q1 p0 p1
        obtain ⟨g0, g1, _, _⟩ := (HR4.out.set2 (.int .i64 3) (.int .i64 (s.at_ : Nat))).two
        have HBZ := (HB4.out.setCell (p := ⟨w.heap.size, 0, none⟩) (Nat.le_refl _) (.int .i64 3)).setCell (p := ⟨w.heap.size, 1, none⟩) (Nat.le_refl _) (.int .i64 (s.at_ : Nat))
        have hx := HGD.out.2.2.2.2
        rw [HV.out, if_neg HBIG.out] at hx
        rw [hx]
        refine bodyPost_ret (v := .agg #[.int .i64 3, .int .i64 (s.at_ : Nat)]) (by simp [results, Try.f60, go_sem, g0, g1]) rfl ?_
        exact ⟨s.er, s.fa, rfl, Box.below HH.out.cur HBZ, Spared.of_below _ HBZ, HN.out.below HBZ⟩
    · have hx := getR_bad (zs := zs) (s := s) (k := k) H0.out (by rw [← HM.out, HEX.out]; exact hbad)
      rw [← HM.out, HEX.out] at hx
      have HX := hide hx
      clear hx
      go_wp2
      clear k0 k1 q0 q1 p0 p1
      rw [HX.out]
      obtain ⟨g0, g1, _, _⟩ := (HG.out.res.set2 (.int .i64 X.2.1) (.int .i64 X.2.2)).two
      have HBZ := (HG.out.below.setCell (p := ⟨w.heap.size, 0, none⟩) (Nat.le_refl _) (.int .i64 X.2.1)).setCell (p := ⟨w.heap.size, 1, none⟩) (Nat.le_refl _) (.int .i64 X.2.2)
      refine bodyPost_ret (v := .agg #[.int .i64 X.2.1, .int .i64 X.2.2]) (by simp [results, Try.f60, go_sem, g0, g1]) rfl ?_
      exact ⟨s.er, s.fa, rfl, Box.below HH.out.cur HBZ, Spared.of_below _ HBZ, HN.out.below HBZ⟩
theorem ostep_get {lo r c n cap A D N : Nat} {a : Option Addr} {zs : List Int} {s : RS} {k : Int} {w : World} (H : PR lo w r c a n cap zs s) (hA : Box w A (.cells #[.pointer (some ⟨r, 0, none⟩)] 66)) (hD : Box w D (.cells #[.int .i64 k] 3)) (hN : Box w N (.cells #[.int .i64 0] 3)) (hDN : ¬ D = N) :
    Calls Try.prog 49 #[.pointer (some ⟨c, 0, none⟩), .func (.func 60) #[] #[.pointer (some ⟨A, 0, none⟩), .pointer (some ⟨D, 0, none⟩), .pointer (some ⟨N, 0, none⟩)]] w fun e w3 => ∃ (x y : Int), e = .returned (.agg #[.int .i64 x, .int .i64 y]) ∧ PR lo w3 r c a n cap zs (getR zs s k).2 ∧ Box w3 N (.cells #[.int .i64 ((getR zs s k).1 : Nat)] 3) ∧ Spared (fun k => k = c ∨ k = N) w w3 := by
  have hcN : ¬ c = N := fun e => Box.apart H.cur hN (by decide) e
  have hNl := hN.lt
  have hcl := H.cur.lt
  by_cases h0 : s.er = 0
  · have C := H.cur
    rw [h0] at C
    refine (ostep_on C 60 _ enter_oRGet1 (fun i => i = N) (fun i h => by omega) (fun x y sv' a' w2 => x = (getR zs s k).2.er ∧ y = (getR zs s k).2.fa ∧ sv' = .slice a n cap ∧ a' = (getR zs s k).2.at_ ∧ Box w2 N (.cells #[.int .i64 ((getR zs s k).1 : Nat)] 3)) (fun W hW _ => (orget1_any (H.below hW) (hA.below hW) (hD.below hW) (hN.below hW) h0 hDN _ rfl).mono ?_)).mono ?_
    · rintro e w2 ⟨er', fa', rfl, C2, S2, N2⟩
      exact ⟨_, _, _, _, er', fa', rfl, C2, S2, rfl, rfl, rfl, rfl, N2⟩
    · rintro e w3 ⟨x, y, sv', a', w2, rfl, ⟨rfl, rfl, rfl, rfl, N2⟩, C3, S3, S23⟩
      exact ⟨_, _, rfl, H.on hN (by decide) (fun _ e => by cases e) (H.ok.get k) C3 S3, N2.spared S23 (fun h => by omega), S3⟩
  · have hr : getR zs s k = (0, s) := if_neg h0
    rw [hr]
    refine (ostep_stays H.cur h0 60 _).mono ?_
    rintro e w' ⟨rfl, C', S'⟩
    have S2 : Spared (fun k => k = c ∨ k = N) w w' := S'.mono (fun _ _ h => .inl h)
    exact ⟨_, _, rfl, H.on hN (by decide) (fun _ e => by cases e) H.ok C' S2, hN.spared S' (fun h => hcN h.symm), S2⟩
set_option maxRecDepth 100000 in
set_option maxHeartbeats 4000000 in
theorem orget_any {lo r c n cap : Nat} {a : Option Addr} {zs : List Int} {s : RS} {k : Int} {w : World} (H : PR lo w r c a n cap zs s) :
    Calls Try.prog 56 #[.pointer (some ⟨r, 0, none⟩), .int .i64 k] w fun e w' => e = .returned (.int .i64 ((getR zs s k).1 : Nat)) ∧ PR lo w' r c a n cap zs (getR zs s k).2 ∧ Spared (fun k => k = c) w w' := by
  have hmf : ∀ (fn : Fn) (first cap : Array Value) (w : World), (Instr.makeFunc fn first cap).run Try.prog w = .ok (.func fn first cap) w := fun _ _ _ _ => rfl
  have B1 := below_new w (.cells #[.pointer (some ⟨r, 0, none⟩)] 66)
  have A1 := Box.new w (.cells #[.pointer (some ⟨r, 0, none⟩)] 66)
  have B2 := below_new (w.alloc (.cells #[.pointer (some ⟨r, 0, none⟩)] 66)) (.cells #[.int .i64 k] 3)
  have D2 := Box.put (w := w.alloc (.cells #[.pointer (some ⟨r, 0, none⟩)] 66)) (k := w.heap.size + 1) (.cells #[.int .i64 k] 3) (by simp)
  have A2 := A1.below B2
  have BB := B1.trans (B2.mono B1.size)
  have B3 := below_new ((w.alloc (.cells #[.pointer (some ⟨r, 0, none⟩)] 66)).alloc (.cells #[.int .i64 k] 3)) (.cells #[.int .i64 0] 3)
  have N3 := Box.put (w := (w.alloc (.cells #[.pointer (some ⟨r, 0, none⟩)] 66)).alloc (.cells #[.int .i64 k] 3)) (k := w.heap.size + 1 + 1) (.cells #[.int .i64 0] 3) (by simp)
  have B := BB.trans (B3.mono BB.size)
  have hno := ornone_no (Box.below H.rdr BB)
  have hst := ostep_get (H.below B) (A2.below B3) (D2.below B3) N3 (by omega)
  obtain ⟨a0, _⟩ := one_of A2
  obtain ⟨a1, _⟩ := one_of (A2.below B3)
  obtain ⟨r1, _⟩ := one_of (Box.below H.rdr B)
  have HB := hide B
  have hcl := H.cur.lt
  clear B1 A1 B2 D2 A2 BB B3 N3 B H
  obtain ⟨x, hx⟩ : ∃ x, getR zs s k = x := ⟨_, rfl⟩
  rw [hx] at hst ⊢
  clear hx
  go_enter Try.func56, Try.ntmps56
  go_wp2_with fail
  refine hno.mono ?_
  rintro e w1 ⟨rfl, rfl⟩
  clear hno
  go_wp2_with fail
  refine hst.mono ?_
  rintro e w3 ⟨X, Y, rfl, H3, N3, S3⟩
  obtain ⟨n0, _⟩ := one_of N3
  have HH := hide H3
  have HS : Hid (Spared (fun k => k = c) w w3) := (Spared.of_below _ HB.out).next S3 (fun i hi h => h.elim id (fun h => by omega))
  clear hst H3 N3 S3 HB a0 a1 r1
  go_wp2
  go_ret
  exact ⟨rfl, HH.out, HS.out⟩
theorem PR.base {base lo r c n cap : Nat} {a : Option Addr} {zs : List Int} {s : RS} {w A B : World} (P : PR lo A r c a n cap zs s) (hb : Below base w A) (S : Spared (fun k => k = c) A B) (hc : base ≤ c) : Below base w B :=
  hb.trans (S.to_below (Nat.le_trans hc (Nat.le_of_lt P.cur.lt)) (fun k hk => by omega))
theorem PR.aside {lo r c n cap F : Nat} {a : Option Addr} {zs : List Int} {s : RS} {cs : Array Value} {t : TypeId} {W W' : World} (H : PR lo W r c a n cap zs s) (hF : Box W F (.cells cs t (0, 0))) (ht1 : t ≠ 87) (ht2 : t ≠ 76) (hs : ∀ (i : Nat) (x : Int), cs[i]? ≠ some (.int .u8 x)) (S : Spared (fun q => q = F) W W') : PR lo W' r c a n cap zs s :=
  ⟨Box.spared H.rdr S (fun e => Box.apart hF H.rdr ht1 e.symm), Box.spared H.cur S (fun e => Box.apart hF H.cur ht2 e.symm), H.byt.keep S (fun hz g o e h => H.byt.off hF hs hz g o e h), H.ok, H.small⟩
def q1 (zs : List Int) (s : RS) := getR zs s 4
def q2 (zs : List Int) (s : RS) := getR zs (q1 zs s).2 2
def q3 (zs : List Int) (s : RS) := getR zs (q2 zs s).2 4
def q4 (zs : List Int) (s : RS) := getR zs (q3 zs s).2 8
def q5 (zs : List Int) (s : RS) := getR zs (q4 zs s).2 2
set_option maxRecDepth 100000 in
set_option maxHeartbeats 2000000 in
theorem mfrhead_any {lo r c n cap : Nat} {a : Option Addr} {zs : List Int} {s : RS} {w : World} (P : PR lo w r c a n cap zs s) :
    Calls Try.prog 44 #[.pointer (some ⟨r, 0, none⟩)] w fun e w' => e = .returned (.agg #[.int .i64 ((q1 zs s).1 : Nat), .int .i64 ((q2 zs s).1 : Nat), .int .i64 ((q3 zs s).1 : Nat), .int .i64 ((q4 zs s).1 : Nat), .int .i64 ((q5 zs s).1 : Nat)]) ∧ PR lo w' r c a n cap zs (q5 zs s).2 ∧ Spared (fun k => k = c) w w' := by
  have hcl := P.cur.lt
  have hrl := P.rdr.lt
  have B1 := below_new w (.cells #[.int .i64 0, .int .i64 0, .int .i64 0, .int .i64 0, .int .i64 0] 56)
  have R1 := Box.new w (.cells #[.int .i64 0, .int .i64 0, .int .i64 0, .int .i64 0, .int .i64 0] 56)
  have h1 := orget_any (k := 4) (P.below B1)
  have HR := hide R1
  have HS := hide (Spared.of_below (fun k => k = c) B1)
  have HCL : Hid (¬ w.heap.size = c) := fun h => by omega
  have HCR : Hid (¬ w.heap.size = r) := fun h => by omega
  have HLT := hide R1.lt
  have E2 : Hid (∀ V, PR lo V r c a n cap zs (q1 zs s).2 → Calls Try.prog 56 #[.pointer (some ⟨r, 0, none⟩), .int .i64 2] V fun e w' => e = .returned (.int .i64 ((q2 zs s).1 : Nat)) ∧ PR lo w' r c a n cap zs (q2 zs s).2 ∧ Spared (fun k => k = c) V w') := fun V h => orget_any h
  have E3 : Hid (∀ V, PR lo V r c a n cap zs (q2 zs s).2 → Calls Try.prog 56 #[.pointer (some ⟨r, 0, none⟩), .int .i64 4] V fun e w' => e = .returned (.int .i64 ((q3 zs s).1 : Nat)) ∧ PR lo w' r c a n cap zs (q3 zs s).2 ∧ Spared (fun k => k = c) V w') := fun V h => orget_any h
  have E4 : Hid (∀ V, PR lo V r c a n cap zs (q3 zs s).2 → Calls Try.prog 56 #[.pointer (some ⟨r, 0, none⟩), .int .i64 8] V fun e w' => e = .returned (.int .i64 ((q4 zs s).1 : Nat)) ∧ PR lo w' r c a n cap zs (q4 zs s).2 ∧ Spared (fun k => k = c) V w') := fun V h => orget_any h
  have E5 : Hid (∀ V, PR lo V r c a n cap zs (q4 zs s).2 → Calls Try.prog 56 #[.pointer (some ⟨r, 0, none⟩), .int .i64 2] V fun e w' => e = .returned (.int .i64 ((q5 zs s).1 : Nat)) ∧ PR lo w' r c a n cap zs (q5 zs s).2 ∧ Spared (fun k => k = c) V w') := fun V h => orget_any h
  have h1' : Calls Try.prog 56 #[.pointer (some ⟨r, 0, none⟩), .int .i64 4] (w.alloc (.cells #[.int .i64 0, .int .i64 0, .int .i64 0, .int .i64 0, .int .i64 0] 56)) fun e w' => e = .returned (.int .i64 ((q1 zs s).1 : Nat)) ∧ PR lo w' r c a n cap zs (q1 zs s).2 ∧ Spared (fun k => k = c) (w.alloc (.cells #[.int .i64 0, .int .i64 0, .int .i64 0, .int .i64 0, .int .i64 0] 56)) w' := h1
  clear h1
  obtain ⟨⟨v1, s1⟩, e1⟩ : ∃ q, q1 zs s = q := ⟨_, rfl⟩
  obtain ⟨⟨v2, s2⟩, e2⟩ : ∃ q, q2 zs s = q := ⟨_, rfl⟩
  obtain ⟨⟨v3, s3⟩, e3⟩ : ∃ q, q3 zs s = q := ⟨_, rfl⟩
  obtain ⟨⟨v4, s4⟩, e4⟩ : ∃ q, q4 zs s = q := ⟨_, rfl⟩
  obtain ⟨⟨v5, s5⟩, e5⟩ : ∃ q, q5 zs s = q := ⟨_, rfl⟩
  rw [e1] at h1' E2
  rw [e2] at E2 E3
  rw [e3] at E3 E4
  rw [e4] at E4 E5
  rw [e5] at E5
  rw [e1, e2, e3, e4, e5]
  clear e1 e2 e3 e4 e5 hcl hrl B1 R1 P
  dsimp only at h1' E2 E3 E4 E5 ⊢
  go_enter Try.func44, Try.ntmps44
  go_wp2_with fail
  refine h1'.mono ?_
  rintro e w1 ⟨rfl, P1, S1⟩
  have hq := E2.out w1 P1
  have HR1 := hide (HR.out.spared S1 HCL.out)
  have HS1 := hide (HS.out.next S1 (fun _ _ h => h))
  have HZ1 := hide (Nat.le_trans HLT.out S1.size)
  clear h1' P1 S1 E2 HR HS
  go_wp2_with fail
  refine hq.mono ?_
  rintro e w2 ⟨rfl, P2, S2⟩
  have hq2 := E3.out w2 P2
  have HR2 := hide (HR1.out.spared S2 HCL.out)
  have HS2 := hide (HS1.out.next S2 (fun _ _ h => h))
  clear hq P2 S2 E3 HR1 HS1
  go_wp2_with fail
  refine hq2.mono ?_
  rintro e w3 ⟨rfl, P3, S3⟩
  have hq3 := E4.out w3 P3
  have HR3 := hide (HR2.out.spared S3 HCL.out)
  have HS3 := hide (HS2.out.next S3 (fun _ _ h => h))
  clear hq2 P3 S3 E4 HR2 HS2
  go_wp2_with fail
  refine hq3.mono ?_
  rintro e w4 ⟨rfl, P4, S4⟩
  have hq4 := E5.out w4 P4
  have HR4 := hide (HR3.out.spared S4 HCL.out)
  have HS4 := hide (HS3.out.next S4 (fun _ _ h => h))
  clear hq3 P4 S4 E5 HR3 HS3
  go_wp2_with fail
  refine hq4.mono ?_
  rintro e w5 ⟨rfl, P5, S5⟩
  have HR5 := hide (HR4.out.spared S5 HCL.out)
  have HS5 := hide (HS4.out.next S5 (fun _ _ h => h))
  have HP5 := hide P5
  clear hq4 P5 S5 HR4 HS4
  have hrow := HR5.out.setRow #[.int .i64 (v1 : Nat), .int .i64 (v2 : Nat), .int .i64 (v3 : Nat), .int .i64 (v4 : Nat), .int .i64 (v5 : Nat)]
  have HROW := hide hrow
  clear hrow
  go_wp2_with (refine wpList_store_row rfl 56 (.tmp 2) (.tmp 13) rfl w.heap.size #[.int .i64 (v1 : Nat), .int .i64 (v2 : Nat), .int .i64 (v3 : Nat), .int .i64 (v4 : Nat), .int .i64 (v5 : Nat)] rfl rfl 56 _ HR5.out.what (by kernel_rfl) rfl (by kernel_rfl) ?_)
  obtain ⟨g0, g1, g2, g3, g4⟩ := five_of HROW.out
  refine bodyPost_ret (v := .agg #[.int .i64 (v1 : Nat), .int .i64 (v2 : Nat), .int .i64 (v3 : Nat), .int .i64 (v4 : Nat), .int .i64 (v5 : Nat)]) (by simp [results, Try.f44, go_sem, g0, g1, g2, g3, g4]) rfl ?_
  have SR : Spared (fun k => k = w.heap.size) w5 (w5.setRow w.heap.size #[.int .i64 (v1 : Nat), .int .i64 (v2 : Nat), .int .i64 (v3 : Nat), .int .i64 (v4 : Nat), .int .i64 (v5 : Nat)]) := ⟨below_setRow (Below.refl _ _) (Nat.zero_le _) _, fun k hk hf => setRow_other _ _ _ _ hf⟩
  refine ⟨rfl, ?_, HS5.out.next SR (fun i hi h => by omega)⟩
  exact HP5.out.aside HR5.out (by decide) (by decide) (fun i x h => by
    match i with
    | 0 => simp at h
    | 1 => simp at h
    | 2 => simp at h
    | 3 => simp at h
    | 4 => simp at h
    | i + 5 => simp at h) SR
theorem PR.lo {lo r c n cap L : Nat} {a : Option Addr} {zs : List Int} {s : RS} {A B : World} (h : PR lo A r c a n cap zs s) (hb : Below L A B) (hr : r < L) (hc : c < L) (hz : zs ≠ [] → ∀ g o, a = some ⟨g, o, none⟩ → g < L) : PR lo B r c a n cap zs s :=
  ⟨Box.lo h.rdr hb hr, Box.lo h.cur hb hc, h.byt.keep (Spared.of_below_lo hb) (fun hne g o e hl => by have := hz hne g o e; omega), h.ok, h.small⟩
theorem OwnI.below {lo : Nat} {W W' : World} {v : Value} {zs : List Int} (h : OwnI lo W v zs) (hb : Below W.heap.size W W') : OwnI lo W' v zs :=
  ⟨World.ownsRow.kept h.1 (row := none) ⟨hb.os, hb.tape, hb.output, hb.size, fun k hk _ => hb.block k hk⟩ (by cases hv : v.ownBlock <;> simp), h.2⟩
theorem OwnI.spared {F : Nat → Prop} {lo : Nat} {A B : World} {v : Value} {zs : List Int} (h : OwnI lo A v zs) (hs : Spared F A B) (hF : ∀ k, F k → k < lo) : OwnI lo B v zs := by
  obtain ⟨⟨h1, h2⟩, hw⟩ := h
  refine ⟨⟨h1, ?_⟩, hw⟩
  rcases h2 with ⟨e, h0⟩ | ⟨g, cap, cur, rfl, hg, hh, r⟩
  · exact .inl ⟨e, h0⟩
  · exact .inr ⟨g, cap, cur, rfl, hg, (hs.same g (Array.getElem?_eq_some_iff.1 hh).1 (fun hf => by have := hF g hf; omega)).trans hh, r⟩
theorem OwnI.lenv {lo : Nat} {W : World} {a : Option Addr} {n c : Nat} {zs : List Int} (h : OwnI lo W (.slice a n c) zs) : zs.length = n := by
  obtain ⟨_, _, e, _⟩ := owni_seg h
  simp only [Value.slice.injEq] at e
  exact e.2.1.symm
theorem OwnI.intz {lo : Nat} {W : World} {a : Option Addr} {n c : Nat} {zs : List Int} (h : OwnI lo W (.slice a n c) zs) : Intz lo W (.slice a n c) zs := by
  obtain ⟨_, _, e, S⟩ := owni_seg h
  rw [← e] at S
  exact S
def lenV : Value → Nat
  | .slice _ m _ => m
  | _ => 0
def TabI (zs : List Int) (s : RS) (L : List Int) (u : RS) : Prop :=
  (s.er = 0 → u.er = 0 → u.at_ = s.at_ + 4 * L.length ∧ u.fa = 0 ∧ L = quads L.length (zs.drop s.at_)) ∧
  (s.er = 0 → ¬ u.er = 0 → ¬ (zs.length - s.at_) % 4 = 0) ∧ (¬ s.er = 0 → ¬ u.er = 0) ∧ L.length ≤ zs.length
theorem quads_snoc (n : Nat) (x : List Int) : quads (n + 1) x = quads n x ++ [((nb ((x.drop (4 * n)).take 4) : Nat) : Int)] := by
  unfold quads
  rw [List.range_succ, List.map_append]
  rfl
theorem TabI.zero (zs : List Int) (s : RS) (h : s.Ok zs) : TabI zs s [] s := by
  refine ⟨fun h0 _ => ⟨rfl, h.2.1 h0, rfl⟩, fun h0 h1 => absurd h0 h1, fun h => h, Nat.zero_le _⟩
theorem TabI.step {zs : List Int} {s : RS} {L : List Int} {u : RS} (ho : Octs zs) (hs : s.Ok zs) (h : TabI zs s L u) (hu : u.Ok zs) (hr : 0 < restR zs u) : TabI zs s (L ++ [(((getR zs u 4).1 : Nat) : Int)]) (getR zs u 4).2 ∧ (getR zs u 4).1 < 4294967296 := by
  obtain ⟨h1, h2, h3, h4⟩ := h
  have hs1 := hs.1
  have hu1 := hu.1
  have u0 : u.er = 0 := by
    by_cases h0 : u.er = 0
    · exact h0
    · unfold restR at hr
      rw [if_neg h0] at hr
      omega
  have hlt : u.at_ < zs.length := by
    unfold restR at hr
    rw [if_pos u0] at hr
    omega
  have s0 : s.er = 0 := Classical.byContradiction fun h0 => h3 h0 u0
  obtain ⟨ea, ef, eL⟩ := h1 s0 u0
  unfold getR
  rw [if_pos u0, if_pos (by decide)]
  by_cases hf : (zs.length : Int) - u.at_ < 4
  · rw [if_pos hf]
    refine ⟨⟨fun _ h => absurd (show (7 : Int) = 0 from h) (by decide), fun _ _ => by omega, fun h => absurd s0 h, by rw [List.length_append]; simp; omega⟩, by show 0 < 4294967296; omega⟩
  · rw [if_neg hf]
    have hn := nb_lt ((zs.drop u.at_).take (4 : Int).toNat) ((ho.drop _).take _)
    rw [List.length_take, List.length_drop, show (4 : Int).toNat = 4 from rfl, Nat.min_eq_left (by omega), show 256 ^ 4 = 4294967296 by decide] at hn
    rw [show (4 : Int).toNat = 4 from rfl, if_pos (by omega)]
    dsimp only
    refine ⟨⟨fun _ _ => ⟨?_, rfl, ?_⟩, fun _ h => absurd rfl h, fun h => absurd s0 h, ?_⟩, hn⟩
    · rw [ea, List.length_append]; simp; omega
    · rw [List.length_append, List.length_singleton, quads_snoc, ← eL, List.drop_drop, ea]
    · rw [List.length_append]; simp; omega
theorem TabI.done {zs : List Int} {s : RS} {L : List Int} {u : RS} (h : TabI zs s L u) (hu : u.Ok zs) (hr : ¬ 0 < restR zs u) : (s.er = 0 ∧ u = ⟨zs.length, 0, 0⟩ ∧ s.at_ + 4 * L.length = zs.length ∧ L = quads L.length (zs.drop s.at_)) ∨ (¬ u.er = 0 ∧ (s.er = 0 → ¬ (zs.length - s.at_) % 4 = 0)) := by
  obtain ⟨h1, h2, h3, h4⟩ := h
  have hu1 := hu.1
  by_cases u0 : u.er = 0
  · left
    have s0 : s.er = 0 := Classical.byContradiction fun h0 => h3 h0 u0
    obtain ⟨ea, ef, eL⟩ := h1 s0 u0
    unfold restR at hr
    rw [if_pos u0] at hr
    have e : u.at_ = zs.length := by omega
    obtain ⟨t, er, fa⟩ := u
    dsimp only at u0 ea ef e
    subst u0 ef e
    exact ⟨s0, rfl, by omega, eL⟩
  · right
    exact ⟨u0, fun s0 => h2 s0 u0⟩
set_option maxRecDepth 100000 in
set_option maxHeartbeats 2000000 in
theorem mfrtab_any {lo r c n cap : Nat} {a : Option Addr} {zs : List Int} {s : RS} {w : World} (P : PR lo w r c a n cap zs s) :
    Calls Try.prog 45 #[.pointer (some ⟨r, 0, none⟩)] w fun e w' => ∃ (g : Option Addr) (m d : Nat) (L : List Int) (u : RS), e = .returned (.slice g m d) ∧ Intz w.heap.size w' (.slice g m d) L ∧ PR lo w' r c a n cap zs u ∧ Spared (fun k => k = c) w w' ∧ ((s.er = 0 ∧ u = ⟨zs.length, 0, 0⟩ ∧ s.at_ + 4 * L.length = zs.length ∧ L = quads L.length (zs.drop s.at_)) ∨ (¬ u.er = 0 ∧ (s.er = 0 → ¬ (zs.length - s.at_) % 4 = 0))) := by
  have HCL := hide P.cur.lt
  have HRL := hide P.rdr.lt
  have HZL := hide P.byt.block
  have HO := hide P.byt.words
  have HZ := hide P.byt.len.1
  have HSM := hide P.small
  have HP := hide P
  have HOK := hide P.ok
  clear P
  go_enter Try.func45, Try.ntmps45
  go_wp2
  go_loopw [3] (fun tb wr => ∃ (g : Option Addr) (m d : Nat) (L : List Int) (u : RS), tb = .slice g m d ∧ Hid (OwnI w.heap.size wr (.slice g m d) L) ∧ Hid (PR lo wr r c a n cap zs u) ∧ Hid (Spared (fun k => k = c) w wr) ∧ Hid (TabI zs s L u)) (fun tb _ => n + 1 - lenV tb)
  case atStart => exact ⟨none, 0, 0, [], s, rfl, owni_nil _ _, HP.out, Spared.refl _ _, TabI.zero zs s HOK.out⟩
  case round =>
    obtain ⟨g, m, d, L, u, rfl, O, P, S, I⟩ := hrel
    have hre := orest_any P.out
    have hlen := O.out.lenv
    have hI4 := I.out.2.2.2
    by_cases hr : 0 < restR zs u
    · obtain ⟨I', hv⟩ := I.out.step HO.out HOK.out P.out.ok hr
      have HI := hide I'
      have HV := hide hv
      obtain ⟨R, hR⟩ : ∃ R, restR zs u = R := ⟨_, rfl⟩
      rw [hR] at hre hr
      have HG : Hid (∀ V, PR lo V r c a n cap zs u → Calls Try.prog 56 #[.pointer (some ⟨r, 0, none⟩), .int .i64 4] V fun e w' => e = .returned (.int .i64 ((getR zs u 4).1 : Nat)) ∧ PR lo w' r c a n cap zs (getR zs u 4).2 ∧ Spared (fun k => k = c) V w') := fun V h => orget_any h
      obtain ⟨⟨v, u'⟩, hq⟩ : ∃ q, getR zs u 4 = q := ⟨_, rfl⟩
      rw [hq] at HI HV HG
      clear hR I I' hv hq
      dsimp only at HI HV HG
      have HLen := hide hlen
      have hm : m + 1 ≤ n + 1 := by have := HI.out.2.2.2; rw [List.length_append] at this; simp at this; have := HZ.out; omega
      have HM := hide hm
      clear hlen hI4 hm
      go_wp2_with fail
      refine hre.mono ?_
      rintro e w1 ⟨rfl, b1⟩
      have hg := HG.out w1 (P.out.below b1)
      have HO1 := hide (O.out.below b1)
      have HS1 := hide (S.out.behind b1)
      clear hre b1 HG O S P
      go_wp2_with fail
      refine hg.mono ?_
      rintro e w2 ⟨rfl, P2, S2⟩
      have HO2 := hide (HO1.out.spared S2 (fun k hk => by subst hk; exact HCL.out))
      have HS2 := hide (HS1.out.next S2 (fun _ _ h => h))
      have hlo := HS2.out.size
      obtain ⟨a3, c3, w3, hap, O3, B3⟩ := owni_append HO2.out v (by have := HV.out; omega) (by have h1 := HLen.out; have h2 := HSM.out; have h3 := HM.out; omega) hlo
      rw [HLen.out] at hap O3
      have HO3 := hide O3
      have HP3 := hide (P2.lo B3 HRL.out HCL.out HZL.out)
      have HS3 := hide (HS2.out.next (Spared.of_below_lo B3) (fun i hi h => by omega))
      clear hg P2 S2 O3 B3 HO1 HS1 HO2 HS2 hlo
      go_wp2_with (at_builtin; refine Lib.wpList_append_run _ rfl _ _ _ _ rfl _ _ rfl rfl _ _ hap ?_)
      exact ⟨⟨a3, m + 1, c3, L ++ [(v : Int)], u', rfl, HO3.out, HP3.out, HS3.out, HI.out⟩, by have := HM.out; simp [lenV]; omega⟩
    · have hd := I.out.done P.out.ok hr
      have hr0 : restR zs u = 0 := by
        unfold restR at hr ⊢
        have := P.out.ok.1
        split
        · rename_i h0; rw [if_pos h0] at hr; omega
        · rfl
      rw [hr0] at hre
      have HD := hide hd
      clear hd hr hr0 hlen hI4
      go_wp2_with fail
      refine hre.mono ?_
      rintro e w1 ⟨rfl, b1⟩
      have HI1 := hide ((O.out.below b1).intz)
      have HP1 := hide (P.out.below b1)
      have HS1 := hide (S.out.behind b1)
      clear hre b1
      go_wp2
      go_ret
      exact ⟨g, m, d, L, u, rfl, HI1.out, HP1.out, HS1.out, HD.out⟩
end Go.Proofs.Ytbebdeaeegcfkaa
