/-
  Joined: CTab CTabs CSum CLow CCat CSealP CEq COpen ZOpen CLaws CKept.
-/
import Derived.Test.YtedjicimgalneaaJWiden
import Derived.Test.YtedjicimgalneaaJRMulB
import Derived.Deep.WholeRow
import Derived.Deep.MidRow
import Derived.Lib.AppendZerosOnto
import Derived.Laws.StructEq
import Derived.BigRegion
namespace Go.Proofs.Ytedjicimgalneaa
open Go.RowKit
def tabv (f : Nat → Nat) : Array Value := ((List.range 256).map fun k => Value.int .u32 (f k : Nat)).toArray
theorem tabv_size (f : Nat → Nat) : (tabv f).size = 256 := by simp [tabv]
theorem tabv_get {f : Nat → Nat} {k : Nat} (h : k < 256) : (tabv f)[k]? = some (.int .u32 (f k : Nat)) := by
  unfold tabv
  rw [List.getElem?_toArray, List.getElem?_map, List.getElem?_range h]
  rfl
theorem tabv_ext {f g : Nat → Nat} (h : ∀ k, k < 256 → f k = g k) : tabv f = tabv g := by
  unfold tabv
  congr 1
  exact List.map_congr_left fun k hk => by rw [h k (List.mem_range.1 hk)]
def setf (f : Nat → Nat) (k x : Nat) : Nat → Nat := fun j => if j = k then x else f j
theorem tabv_set (f : Nat → Nat) {k : Nat} (hk : k < 256) (x : Nat) : (tabv f).setIfInBounds k (.int .u32 (x : Nat)) = tabv (setf f k x) := by
  refine Array.ext_getElem? fun j => ?_
  rw [Array.getElem?_setIfInBounds]
  by_cases hj : j < 256
  · rw [tabv_get (f := setf f k x) hj]
    by_cases e : k = j
    · subst e
      rw [if_pos rfl, if_pos (by rw [tabv_size]; exact hj), show setf f k x k = x from if_pos rfl]
    · rw [if_neg e, tabv_get (f := f) hj, show setf f k x j = f j from if_neg (fun e' => e e'.symm)]
  · have h1 : (tabv f)[j]? = none := Array.getElem?_eq_none (by rw [tabv_size]; omega)
    have h2 : (tabv (setf f k x))[j]? = none := Array.getElem?_eq_none (by rw [tabv_size]; omega)
    rw [h1, h2, if_neg (by omega)]
theorem tabv_one (f : Nat → Nat) : (tabv f).all (·.oneCell') = true := by
  refine Array.all_eq_true_iff_forall_mem.2 fun v hv => ?_
  simp only [tabv, List.mem_toArray, List.mem_map] at hv
  obtain ⟨k, _, rfl⟩ := hv
  rfl
def Tab (W : World) (g : Nat) (f : Nat → Nat) : Prop := Box W g (.cells (tabv f) 103)
theorem Tab.cell {W : World} {g k : Nat} {f : Nat → Nat} (h : Tab W g f) (hk : k < 256) : W.cell? ⟨g, k, none⟩ = some (.int .u32 (f k : Nat)) := (cell_of_row W g k _ _ _ h.what).trans (tabv_get hk)
theorem Tab.thaw {W : World} {g k : Nat} {f : Nat → Nat} (h : Tab W g f) : W.frozen? ⟨g, k, none⟩ = false := frozen_of_row W g k _ _ h.what
theorem Tab.below {W W' : World} {g : Nat} {f : Nat → Nat} (h : Tab W g f) (hb : Below W.heap.size W W') : Tab W' g f := Box.below h hb
theorem Tab.set {W : World} {g k : Nat} {f : Nat → Nat} (h : Tab W g f) (hk : k < 256) (x : Nat) : Tab (W.setCell ⟨g, k, none⟩ (.int .u32 (x : Nat))) g (setf f k x) :=
  ⟨by simpa [World.setCell] using h.lt, by rw [← tabv_set f hk]; exact heap_setCell_same W g k _ _ _ h.what⟩
theorem tab_info : (Try.prog.info? 103).map (fun i => (i.zero, i.size)) = some (some (.agg (tabv fun _ => 0)), 256) := by kernel_rfl
theorem tab_zero (w : World) : (zeroValue 103).run Try.prog w = .ok (.agg (tabv fun _ => 0)) w := (zero_of_info tab_info).1 w
theorem tabv_info (f : Nat → Nat) : (Try.prog.info? 103).map (·.size) = some (tabv f).size := by rw [tabv_size]; exact (zero_of_info tab_info).2
set_option maxRecDepth 100000 in
set_option maxHeartbeats 400000 in
theorem shift_any (x : Nat) (hx : x < 4294967296) (w : World) :
    Calls Try.prog 74 #[.int .u32 x] w fun e w' => e = .returned (.int .u32 (cS x : Nat)) ∧ w' = w := by
  by_cases hp : x % 2 = 1
  · have h2 : bits .xor .u32 ((x / 2 : Nat) : Int) 3988292384 = ((x / 2 ^^^ 3988292384 : Nat) : Int) := u32_xor_nat _ 3988292384 (by omega) (by decide)
    have h3 : ((x / 2 : Nat) : Int) = (x : Int) / 2 := by omega
    rw [h3] at h2
    have hs : cS x = x / 2 ^^^ 3988292384 := by unfold cS; rw [if_pos hp]
    rw [hs]
    clear hs h3
    go_enter Try.func74, Try.ntmps74
    go_wp2
    go_ret
    exact ⟨rfl, rfl⟩
  · have hs : cS x = x / 2 := by unfold cS; rw [if_neg hp, Nat.xor_zero]
    rw [hs]
    clear hs
    go_enter Try.func74, Try.ntmps74
    go_wp2
    go_ret
    exact ⟨rfl, rfl⟩
theorem below_setRow {B g : Nat} {a w : World} (h : Below B a w) (hg : B ≤ g) (cs : Array Value) : Below B a (w.setRow g cs) :=
  ⟨h.os, h.tape, h.output, by simpa using h.size, fun k hk => (setRow_other w g k cs (by omega)).trans (h.block k hk)⟩
theorem Box.setRow {W : World} {g : Nat} {old : Array Value} {t : TypeId} (cs : Array Value) (h : Box W g (.cells old t)) : Box (W.setRow g cs) g (.cells cs t) :=
  ⟨by simpa using h.lt, setRow_heap W g old cs t _ h.what⟩
theorem Box.row_other {W : World} {g k : Nat} {o : Obj} (h : Box W k o) (hk : k ≠ g) (cs : Array Value) : Box (W.setRow g cs) k o :=
  ⟨by simpa using h.lt, (setRow_other W g k cs hk).trans h.what⟩
theorem Box.cell_other {W : World} {g k : Nat} {o : Obj} (h : Box W k o) (hk : k ≠ g) (j : Nat) (v : Value) : Box (W.setCell ⟨g, j, none⟩ v) k o :=
  ⟨by simpa [World.setCell] using h.lt, (heap_setCell_other W ⟨g, j, none⟩ k v hk).trans h.what⟩
def tfill (k : Nat) : Nat → Nat := fun j => if j < k then cT j else 0
theorem tfill_zero : tabv (tfill 0) = tabv fun _ => 0 := tabv_ext fun k _ => by unfold tfill; rw [if_neg (by omega)]
theorem tfill_all : tabv (tfill 256) = tabv cT := tabv_ext fun k hk => by unfold tfill; rw [if_pos hk]
theorem tfill_set (k : Nat) : setf (tfill k) k (cT k) = tfill (k + 1) := by
  funext j
  unfold setf tfill
  by_cases e : j = k
  · subst e
    rw [if_pos rfl, if_pos (by omega)]
  · rw [if_neg e]
    by_cases h : j < k
    · rw [if_pos h, if_pos (by omega)]
    · rw [if_neg h, if_neg (by omega)]
theorem results_tab {fn : Func} {p : Tmp} (h : fn.results = #[.cell p 103]) {tmps : Array Value} {w : World} {g : Nat} {f : Nat → Nat} (hp : tmps.getD p undef = .pointer (some ⟨g, 0, none⟩)) (T : Tab w g f) :
    (results fn tmps).run Try.prog w = .ok (.agg (tabv f)) w := results_cell_row h tmps w g _ _ _ _ hp T.what Try.underlying103 rfl (tabv_info f)
def tmid (k j : Nat) : Nat → Nat := setf (tfill k) k (cSn j k)
theorem tmid_all (k : Nat) : tmid k 8 = tfill (k + 1) := tfill_set k
theorem tmid_get (k j : Nat) : tmid k j k = cSn j k := if_pos rfl
theorem tmid_set (k j x : Nat) (h : x = cSn (j + 1) k) : setf (tmid k j) k x = tmid k (j + 1) := by
  subst h
  funext i
  unfold tmid setf
  by_cases e : i = k
  · rw [if_pos e, if_pos e]
  · rw [if_neg e, if_neg e, if_neg e]
set_option maxRecDepth 100000 in
set_option maxHeartbeats 2000000 in
theorem ctable_any (w : World) : Calls Try.prog 73 #[] w fun e w' => e = .returned (.agg (tabv cT)) ∧ Below w.heap.size w w' := by
  obtain ⟨Z, hZ⟩ : ∃ Z, (tabv fun _ => 0) = Z := ⟨_, rfl⟩
  have hz := tab_zero
  rw [hZ] at hz
  have b1 := below_new w (.cells Z 103)
  have b2 := below_new (w.alloc (.cells Z 103)) (.cells Z 103)
  have HB := hide (b1.trans (b2.mono b1.size))
  have HT : Hid (Tab ((w.alloc (.cells Z 103)).alloc (.cells Z 103)) (w.heap.size + 1) (tfill 0)) := by
    show Box _ _ (.cells (tabv (tfill 0)) 103)
    rw [tfill_zero, hZ]
    exact Box.put _ (by simp)
  have HR := hide ((Box.new w (.cells Z 103)).below b2)
  have HZ := hide hZ
  clear b1 b2 hZ
  go_enter Try.func73, Try.ntmps73
  go_wp2
  clear hz
  obtain ⟨g, hg⟩ : ∃ g, w.heap.size = g := ⟨_, rfl⟩
  rw [hg] at HB HT HR ⊢
  have HG := hide hg
  clear hg
  go_loopw [3] (fun i wr => ∃ k : Nat, k ≤ 256 ∧ i = .int .i64 k ∧ Hid (Tab wr (g + 1) (tfill k)) ∧ Hid (Box wr g (.cells Z 103)) ∧ Hid (Below g w wr)) (fun i _ => 256 - (intOf i).toNat)
  case atStart => exact ⟨0, Nat.zero_le _, rfl, HT, HR, HB⟩
  case round =>
    obtain ⟨k, hk, rfl, HT, HR, HB⟩ := hrel
    by_cases hkl : k < 256
    · have hki : (k : Int) < 256 := by omega
      have c1 := HT.out.cell hkl
      have f1 := HT.out.thaw (k := k)
      have HT1 : Hid (Tab (wr.setCell ⟨g + 1, k, none⟩ (.int .u32 (k : Nat))) (g + 1) (tmid k 0)) := HT.out.set hkl k
      have HR1 := hide (HR.out.cell_other (g := g + 1) (by omega) k (.int .u32 (k : Nat)))
      have HB1 := hide (HB.out.setCell (p := ⟨g + 1, k, none⟩) (Nat.le_succ g) (.int .u32 (k : Nat)))
      clear HT HR HB
      go_wp2
      clear c1 f1
      obtain ⟨wv, hwv⟩ : ∃ wv, wr.setCell ⟨g + 1, k, none⟩ (.int .u32 (k : Nat)) = wv := ⟨_, rfl⟩
      rw [hwv] at HT1 HR1 HB1 ⊢
      clear hwv
      go_loopw [10] (fun i wr => ∃ j : Nat, j ≤ 8 ∧ i = .int .i64 j ∧ Hid (Tab wr (g + 1) (tmid k j)) ∧ Hid (Box wr g (.cells Z 103)) ∧ Hid (Below g w wr)) (fun i _ => 8 - (intOf i).toNat)
      case atStart => exact ⟨0, Nat.zero_le _, rfl, HT1, HR1, HB1⟩
      case round =>
        obtain ⟨j, hj, rfl, HT, HR, HB⟩ := hrel
        by_cases hjl : j < 8
        · have hji : (j : Int) < 8 := by omega
          have hlt : cSn j k < 4294967296 := cSn_lt (by omega) j
          have c1 := HT.out.cell hkl
          rw [tmid_get] at c1
          have f1 := HT.out.thaw (k := k)
          obtain ⟨x, hx⟩ : ∃ x, cSn j k = x := ⟨_, rfl⟩
          rw [hx] at hlt c1
          have hc := shift_any x hlt wr
          have HT1 := hide (HT.out.set hkl (cS x))
          have HX : Hid (cS x = cSn (j + 1) k) := by rw [← hx]; rfl
          have HR1 := hide (HR.out.cell_other (g := g + 1) (by omega) k (.int .u32 (cS x : Nat)))
          have HB1 := hide (HB.out.setCell (p := ⟨g + 1, k, none⟩) (Nat.le_succ g) (.int .u32 (cS x : Nat)))
          clear HT HR HB hx hlt
          go_wp2_with fail
          refine hc.mono ?_
          rintro e w1 ⟨rfl, hw⟩
          obtain rfl := hw.symm
          clear hc hw
          go_wp2
          exact ⟨⟨j + 1, by omega, by go_num, (by have := HT1.out; rwa [tmid_set k j _ HX.out] at this), HR1, HB1⟩, by simp [intOf]; omega⟩
        · obtain rfl : j = 8 := by omega
          go_wp2
          exact ⟨⟨k + 1, by omega, by go_num, (by rw [← tmid_all]; exact HT), HR, HB⟩, by simp [intOf]; omega⟩
    · obtain rfl : k = 256 := by omega
      have hT : Tab wr (g + 1) cT := by
        have : Box wr (g + 1) (.cells (tabv (tfill 256)) 103) := HT.out
        rwa [tfill_all] at this
      have HT1 := hide hT
      have HT2 : Hid (Tab (wr.setRow g (tabv cT)) g cT) := HR.out.setRow (tabv cT)
      have HB2 := hide (below_setRow HB.out (Nat.le_refl g) (tabv cT))
      have hS : Z.size = (tabv cT).size := by rw [← HZ.out, tabv_size, tabv_size]
      have HS := hide hS
      have HR1 := hide HR.out
      clear hT hS HT HB
      go_wp2_with (first | (refine wpList_load_row rfl 103 (.tmp 1) rfl (g + 1) rfl 103 (tabv cT) (0, 0) _ HT1.out.what Try.underlying103 rfl (tabv_info _) ?_) | (refine wpList_store_row rfl 103 (.tmp 0) (.tmp 20) rfl g (tabv cT) rfl rfl 103 Z HR1.out.what (tabv_info _) HS.out (tabv_one _) ?_))
      refine bodyPost_ret (v := .agg (tabv cT)) (results_tab rfl rfl HT2.out) rfl ?_
      exact ⟨rfl, by rw [HG.out]; exact HB2.out⟩
def Nums (f : Nat → Nat) : Prop := ∀ k, k < 256 → f k < 4294967296
theorem nums_cT : Nums cT := fun k hk => cSn_lt (by omega) 8
theorem Nums.setf {f : Nat → Nat} (h : Nums f) (k x : Nat) (hx : x < 4294967296) : Nums (setf f k x) := fun j hj => by
  unfold Go.Proofs.Ytedjicimgalneaa.setf
  split
  · exact hx
  · exact h j hj
def PT (W : World) (p : Option Addr) (f : Nat → Nat) : Prop := (p = none ∧ f = cT) ∨ ∃ g, p = some ⟨g, 0, none⟩ ∧ Tab W g f
theorem PT.below {W W' : World} {p : Option Addr} {f : Nat → Nat} (h : PT W p f) (hb : Below W.heap.size W W') : PT W' p f := by
  rcases h with h | ⟨g, e, h⟩
  · exact .inl h
  · exact .inr ⟨g, e, h.below hb⟩
theorem PT.nil (W : World) : PT W none cT := .inl ⟨rfl, rfl⟩
def sumBy (f : Nat → Nat) (zs : List Int) : Nat := 4294967295 - cReg f 4294967295 zs
theorem place_lt {r : Nat} {z : Int} (hz : 0 ≤ z ∧ z < 256) : (r % 256) ^^^ z.toNat < 256 := by
  have : (r % 256) ^^^ z.toNat < 2 ^ 8 := Nat.xor_lt_two_pow (by omega) (by omega)
  omega
theorem step_lt {f : Nat → Nat} (hf : Nums f) {r : Nat} {z : Int} (hr : r < 4294967296) (hz : 0 ≤ z ∧ z < 256) : cStep f r z < 4294967296 := by
  have : r / 256 ^^^ f ((r % 256) ^^^ z.toNat) < 2 ^ 32 := Nat.xor_lt_two_pow (by omega) (by have := hf _ (place_lt (r := r) hz); omega)
  unfold cStep
  omega
theorem reg_lt {f : Nat → Nat} (hf : Nums f) {zs : List Int} (ho : Octs zs) {r : Nat} (hr : r < 4294967296) : cReg f r zs < 4294967296 := by
  induction zs generalizing r with
  | nil => exact hr
  | cons z zs ih => rw [cReg_cons]; exact ih ho.tail (step_lt hf hr ho.head)
theorem reg_take {f : Nat → Nat} {r k : Nat} {zs : List Int} (hk : k < zs.length) : cReg f r (zs.take (k + 1)) = cStep f (cReg f r (zs.take k)) (zs[k]?.getD 0) := by
  rw [List.take_add_one, List.getElem?_eq_getElem hk, Option.toList_some, cReg_snoc]
  rfl
theorem not32 {r : Nat} (h : r < 4294967296) : bits .xor .u32 IntKind.u32.max (r : Int) = ((4294967295 - r : Nat) : Int) := by
  have := u32_xor_nat 4294967295 r (by decide) h
  rw [Nat.xor_comm, xor_ones h] at this
  exact this
set_option maxRecDepth 100000 in
set_option maxHeartbeats 1000000 in
theorem first_any {b : Nat} {p : Option Addr} {f : Nat → Nat} {w : World} (T : PT w p f) (hc : w.cell? ⟨b, 0, none⟩ = some (.pointer p)) :
    Calls Try.prog 65 #[.slice (some ⟨b, 0, none⟩) 1 1] w fun e w' => ∃ g, e = .returned (.pointer (some ⟨g, 0, none⟩)) ∧ Tab w' g f ∧ Below w.heap.size w w' := by
  rcases T with ⟨rfl, rfl⟩ | ⟨g, rfl, T⟩
  · have ht := ctable_any w
    obtain ⟨Z, hZ⟩ : ∃ Z, (tabv fun _ => 0) = Z := ⟨_, rfl⟩
    have hz := tab_zero
    rw [hZ] at hz
    have HZ : Hid (Z.size = (tabv cT).size) := by show Z.size = _; rw [← hZ, tabv_size, tabv_size]
    clear hZ
    go_enter Try.func65, Try.ntmps65
    go_wp2
    go_loopw [8] (fun i wr => ∃ k : Nat, k ≤ 1 ∧ i = .int .i64 k ∧ wr = w) (fun i _ => 1 - (intOf i).toNat)
    case atStart => exact ⟨0, Nat.zero_le _, rfl, rfl⟩
    case round =>
      obtain ⟨k, hk, rfl, rfl⟩ := hrel
      by_cases h0 : k = 0
      · subst h0
        go_wp2
        exact ⟨⟨1, by omega, rfl, trivial⟩, by simp [intOf]⟩
      · obtain rfl : k = 1 := by omega
        go_wp2_with fail
        refine ht.mono ?_
        rintro e w1 ⟨rfl, hb⟩
        have HB := hide hb
        clear ht hb
        have HB2 := hide (HB.out.a1 (.cells (tabv cT) 103))
        have HT := hide (show Tab (w1.alloc (.cells (tabv cT) 103)) w1.heap.size cT from Box.new w1 _)
        go_wp2_with (refine wpList_store_row rfl 103 (.tmp 5) (.tmp 16) rfl w1.heap.size (tabv cT) rfl rfl 103 Z (heap_alloc_last w1 _) (tabv_info _) HZ.out (tabv_one _) ?_)
        rw [World.setRow_alloc_new]
        go_ret
        exact ⟨_, rfl, HT.out, HB2.out⟩
  · go_enter Try.func65, Try.ntmps65
    go_wp2
    go_loopw [8] (fun i wr => i = .int .i64 0 ∧ wr = w) (fun i _ => 1)
    case atStart => exact ⟨rfl, rfl⟩
    case round =>
      obtain ⟨rfl, rfl⟩ := hrel
      go_wp2
      go_ret
      exact ⟨g, rfl, T, Below.refl _ _⟩
set_option maxRecDepth 100000 in
set_option maxHeartbeats 2000000 in
theorem csum_any {lo : Nat} {p : Option Addr} {f : Nat → Nat} {a : Option Addr} {n c : Nat} {zs : List Int} {w : World} (T : PT w p f) (hf : Nums f) (X : Byt lo w (.slice a n c) zs) (hl : n ≤ 1000000) :
    Calls Try.prog 55 #[.pointer p, .slice a n c] w fun e w' => e = .returned (.int .u32 (sumBy f zs : Nat)) ∧ Below w.heap.size w w' := by
  have b1 := below_new w (.cells #[.pointer p] 80)
  have hfi := first_any (T.below b1) (cell_of_heap (World.alloc_heap_new w (.cells #[.pointer p] 80)) 0)
  have HN := hide X.len.1
  have HX := hide (X.below b1)
  have HB1 := hide b1
  have HF := hide hf
  clear X b1 T hf
  go_enter Try.func55, Try.ntmps55
  go_wp2_with fail
  refine hfi.mono ?_
  rintro e w1 ⟨g, rfl, T, hb⟩
  have HT := hide T
  have HX1 := hide (HX.out.below hb)
  have HB := hide (HB1.out.trans (hb.mono HB1.out.size))
  clear hfi hb HX HB1 T
  go_wp2
  go_loopw [5, 13] (fun r i wr => ∃ k : Nat, k ≤ n ∧ r = .int .u32 (cReg f 4294967295 (zs.take k) : Nat) ∧ i = .int .i64 k ∧ wr = w1) (fun _ i _ => n - (intOf i).toNat)
  case atStart => exact ⟨0, Nat.zero_le _, rfl, rfl, rfl⟩
  case round =>
    obtain ⟨k, hk, rfl, rfl, rfl⟩ := hrel
    by_cases hkn : k < n
    · have hki : (k : Int) < (n : Int) := by omega
      obtain ⟨q, o, rfl, _, _⟩ := HX1.out.row (by omega)
      have c1 := (HX1.out.cell hkn).1
      have ho := HX1.out.words.getD k
      have hrl := reg_lt HF.out (HX1.out.words.take k) (r := 4294967295) (by omega)
      have hst : cReg f 4294967295 (zs.take (k + 1)) = cStep f (cReg f 4294967295 (zs.take k)) (zs[k]?.getD 0) := reg_take (by have := HN.out; omega)
      have HS := hide hst
      clear hst
      generalize cReg f 4294967295 (zs.take k) = r at *
      generalize zs[k]?.getD 0 = z at *
      have hx1 : bits .xor .u8 ((r : Int) % 256) z = (((r % 256) ^^^ z.toNat : Nat) : Int) := by
        have := u8_xor ((r : Int) % 256) z (by omega) (by omega) ho.1 ho.2
        rw [this]
        congr 1
      have hpl := place_lt (r := r) ho
      have hfl := HF.out _ hpl
      obtain ⟨i, hi⟩ : ∃ i, (r % 256) ^^^ z.toNat = i := ⟨_, rfl⟩
      rw [hi] at hx1 hpl hfl
      have c2 := HT.out.cell hpl
      have hx2 := u32_xor_nat (r / 256) (f i) (by omega) hfl
      rw [show ((r / 256 : Nat) : Int) = (r : Int) / 256 by omega] at hx2
      have HI := hide hi
      clear hi
      go_wp2
      exact ⟨⟨k + 1, by omega, by rw [HS.out]; unfold cStep; rw [HI.out], by go_num, trivial⟩, by simp [intOf]; omega⟩
    · obtain rfl : k = n := by omega
      have hr : cReg f 4294967295 (zs.take k) = cReg f 4294967295 zs := by rw [HN.out, List.take_length]
      have hx := not32 (reg_lt HF.out HX1.out.words (r := 4294967295) (by omega))
      rw [hr]
      clear hr
      have HC := hide hx
      clear hx
      go_wp2
      go_ret
      exact ⟨by rw [HC.out]; rfl, HB.out⟩
def quad (f : Nat → Nat) : Array Value := ((List.range 4).map fun k => Value.int .u8 (f k : Nat)).toArray
theorem quad_size (f : Nat → Nat) : (quad f).size = 4 := by simp [quad]
theorem quad_get {f : Nat → Nat} {k : Nat} (h : k < 4) : (quad f)[k]? = some (.int .u8 (f k : Nat)) := by
  unfold quad
  rw [List.getElem?_toArray, List.getElem?_map, List.getElem?_range h]
  rfl
theorem quad_ext {f g : Nat → Nat} (h : ∀ k, k < 4 → f k = g k) : quad f = quad g := by
  unfold quad
  congr 1
  exact List.map_congr_left fun k hk => by rw [h k (List.mem_range.1 hk)]
theorem quad_set (f : Nat → Nat) {k : Nat} (hk : k < 4) (x : Nat) : (quad f).setIfInBounds k (.int .u8 (x : Nat)) = quad (setf f k x) := by
  refine Array.ext_getElem? fun j => ?_
  rw [Array.getElem?_setIfInBounds]
  by_cases hj : j < 4
  · rw [quad_get (f := setf f k x) hj]
    by_cases e : k = j
    · subst e
      rw [if_pos rfl, if_pos (by rw [quad_size]; exact hj), show setf f k x k = x from if_pos rfl]
    · rw [if_neg e, quad_get (f := f) hj, show setf f k x j = f j from if_neg (fun e' => e e'.symm)]
  · have h1 : (quad f)[j]? = none := Array.getElem?_eq_none (by rw [quad_size]; omega)
    have h2 : (quad (setf f k x))[j]? = none := Array.getElem?_eq_none (by rw [quad_size]; omega)
    rw [h1, h2, if_neg (by omega)]
theorem quad_one (f : Nat → Nat) : (quad f).all (·.oneCell') = true := by
  refine Array.all_eq_true_iff_forall_mem.2 fun v hv => ?_
  simp only [quad, List.mem_toArray, List.mem_map] at hv
  obtain ⟨k, _, rfl⟩ := hv
  rfl
theorem quad_info (f : Nat → Nat) : (Try.prog.info? 81).map (·.size) = some (quad f).size := by rw [quad_size]; kernel_rfl
def Quad (W : World) (g : Nat) (f : Nat → Nat) : Prop := Box W g (.cells (quad f) 81)
theorem Quad.cell {W : World} {g k : Nat} {f : Nat → Nat} (h : Quad W g f) (hk : k < 4) : W.cell? ⟨g, k, none⟩ = some (.int .u8 (f k : Nat)) := (cell_of_row W g k _ _ _ h.what).trans (quad_get hk)
theorem Quad.thaw {W : World} {g k : Nat} {f : Nat → Nat} (h : Quad W g f) : W.frozen? ⟨g, k, none⟩ = false := frozen_of_row W g k _ _ h.what
theorem Quad.set {W : World} {g k : Nat} {f : Nat → Nat} (h : Quad W g f) (hk : k < 4) (x : Nat) : Quad (W.setCell ⟨g, k, none⟩ (.int .u8 (x : Nat))) g (setf f k x) :=
  ⟨by simpa [World.setCell] using h.lt, by rw [← quad_set f hk]; exact heap_setCell_same W g k _ _ _ h.what⟩
def lowk (s k : Nat) : Nat := s / 2 ^ (k * 8) % 256
def lfill (s k : Nat) : Nat → Nat := fun j => if j < k then lowk s j else 0
theorem lfill_set (s k : Nat) : setf (lfill s k) k (lowk s k) = lfill s (k + 1) := by
  funext j
  unfold setf lfill
  by_cases e : j = k
  · subst e
    rw [if_pos rfl, if_pos (by omega)]
  · rw [if_neg e]
    by_cases h : j < k
    · rw [if_pos h, if_pos (by omega)]
    · rw [if_neg h, if_neg (by omega)]
theorem lfill_all (s : Nat) : quad (lfill s 4) = quad (lowk s) := quad_ext fun k hk => by unfold lfill; rw [if_pos hk]
theorem lowk_int (s k : Nat) : (s : Int) / 2 ^ (k * 8) % 256 = (lowk s k : Nat) := by unfold lowk; simp
theorem quad_le4 (s : Nat) : quad (lowk s) = ((le4 s).map (Value.int .u8)).toArray := by
  have : (List.range 4) = [0, 1, 2, 3] := rfl
  unfold quad lowk le4
  rw [this]
  simp
theorem results_quad {fn : Func} {p : Tmp} (h : fn.results = #[.cell p 81]) {tmps : Array Value} {w : World} {g : Nat} {f : Nat → Nat} (hp : tmps.getD p undef = .pointer (some ⟨g, 0, none⟩)) (T : Quad w g f) :
    (results fn tmps).run Try.prog w = .ok (.agg (quad f)) w := results_cell_row h tmps w g _ _ _ _ hp T.what Try.underlying81 rfl (quad_info f)
set_option maxRecDepth 100000 in
set_option maxHeartbeats 2000000 in
theorem clow_any (s : Nat) (w : World) : Calls Try.prog 54 #[.int .u32 s] w fun e w' => e = .returned (.agg (quad (lowk s))) ∧ Below w.heap.size w w' := by
  have b1 := below_new w (.cells #[.int .u8 0, .int .u8 0, .int .u8 0, .int .u8 0] 81)
  have b2 := below_new (w.alloc (.cells #[.int .u8 0, .int .u8 0, .int .u8 0, .int .u8 0] 81)) (.cells #[.int .u8 0, .int .u8 0, .int .u8 0, .int .u8 0] 81)
  have HB := hide (b1.trans (b2.mono b1.size))
  have HT : Hid (Quad ((w.alloc (.cells #[.int .u8 0, .int .u8 0, .int .u8 0, .int .u8 0] 81)).alloc (.cells #[.int .u8 0, .int .u8 0, .int .u8 0, .int .u8 0] 81)) (w.heap.size + 1) (lfill s 0)) := by
    have e : quad (lfill s 0) = #[.int .u8 0, .int .u8 0, .int .u8 0, .int .u8 0] := by
      have : quad (lfill s 0) = quad (fun _ => 0) := quad_ext fun k _ => by unfold lfill; rw [if_neg (by omega)]
      rw [this]; rfl
    show Box _ _ (.cells (quad (lfill s 0)) 81)
    rw [e]
    exact Box.put _ (by simp)
  have HR := hide ((Box.new w (.cells #[.int .u8 0, .int .u8 0, .int .u8 0, .int .u8 0] 81)).below b2)
  clear b1 b2
  go_enter Try.func54, Try.ntmps54
  go_wp2
  obtain ⟨g, hg⟩ : ∃ g, w.heap.size = g := ⟨_, rfl⟩
  rw [hg] at HB HT HR ⊢
  have HG := hide hg
  clear hg
  go_loopw [5] (fun i wr => ∃ k : Nat, k ≤ 4 ∧ i = .int .i64 k ∧ Hid (Quad wr (g + 1) (lfill s k)) ∧ Hid (Box wr g (.cells #[.int .u8 0, .int .u8 0, .int .u8 0, .int .u8 0] 81)) ∧ Hid (Below g w wr)) (fun i _ => 4 - (intOf i).toNat)
  case atStart => exact ⟨0, Nat.zero_le _, rfl, HT, HR, HB⟩
  case round =>
    obtain ⟨k, hk, rfl, HT, HR, HB⟩ := hrel
    by_cases hkl : k < 4
    · have hki : (k : Int) < 4 := by omega
      have c1 := HT.out.cell hkl
      have f1 := HT.out.thaw (k := k)
      have HT1 := hide (HT.out.set hkl (lowk s k))
      have HR1 := hide (HR.out.cell_other (g := g + 1) (by omega) k (.int .u8 (lowk s k : Nat)))
      have HB1 := hide (HB.out.setCell (p := ⟨g + 1, k, none⟩) (Nat.le_succ g) (.int .u8 (lowk s k : Nat)))
      clear HT HR HB
      go_wp2
      rw [lowk_int]
      exact ⟨⟨k + 1, by omega, by go_num, (by have := HT1.out; rwa [lfill_set] at this), HR1, HB1⟩, by simp [intOf]; omega⟩
    · obtain rfl : k = 4 := by omega
      have hT : Quad wr (g + 1) (lowk s) := by
        have : Box wr (g + 1) (.cells (quad (lfill s 4)) 81) := HT.out
        rwa [lfill_all] at this
      have HT1 := hide hT
      have HT2 : Hid (Quad (wr.setRow g (quad (lowk s))) g (lowk s)) := HR.out.setRow (quad (lowk s))
      have HB2 := hide (below_setRow HB.out (Nat.le_refl g) (quad (lowk s)))
      have HR1 := hide HR.out
      clear hT HT HB
      go_wp2_with (first | (refine wpList_load_row rfl 81 (.tmp 3) rfl (g + 1) rfl 81 (quad (lowk s)) (0, 0) _ HT1.out.what Try.underlying81 rfl (quad_info _) ?_) | (refine wpList_store_row rfl 81 (.tmp 2) (.tmp 16) rfl g (quad (lowk s)) rfl rfl 81 _ HR1.out.what (quad_info _) (by rw [quad_size]; rfl) (quad_one _) ?_))
      refine bodyPost_ret (v := .agg (quad (lowk s))) (results_quad rfl rfl HT2.out) rfl ?_
      exact ⟨rfl, by rw [HG.out]; exact HB2.out⟩
set_option maxHeartbeats 1000000 in
set_option maxRecDepth 100000 in
theorem growb_zero (w : World) : Calls Try.prog 66 #[.slice none 0 0, .int .i64 0] w fun e w' => e = .returned (.slice none 0 0) ∧ w' = w := by
  go_enter Try.func66, Try.ntmps66
  go_wp2
  go_ret
  exact ⟨rfl, rfl⟩
set_option maxHeartbeats 1000000 in
set_option maxRecDepth 100000 in
theorem growb_some (n : Nat) (h0 : 0 < n) (hn : n ≤ 1000000) (w : World) : Calls Try.prog 66 #[.slice none 0 0, .int .i64 n] w fun e w' =>
    ∃ G, n ≤ G ∧ G ≤ maxLen ∧ e = .returned (.slice (some ⟨w.heap.size, 0, none⟩) 0 G) ∧ w' = w.drew.alloc (.cells (Array.replicate G (.int .u8 0)) 5) := by
  obtain ⟨i0, hi, hz0, hz1, hz2⟩ := info_parts infoU8
  have hGn : n ≤ grownCap w n 0 5 := grownCap_ge w _ _ _
  have hGm : grownCap w n 0 5 ≤ maxLen := grownCap_le_maxLen w _ _ _ (by unfold maxLen; omega)
  have hrz : ∀ ty, (Builtin.append_ #[22, 3] ty #[.slice none 0 0, .int .i64 (n : Int)]).run Try.prog w =
      .ok (.slice (some ⟨w.heap.size, 0, none⟩) n (grownCap w n 0 5)) (w.drew.alloc (.cells (Array.replicate (grownCap w n 0 5) (.int .u8 0)) 5)) := fun ty => by
    have h := Lib.run_append_grow_zeros w 22 3 ty 5 i0 (.int .u8 0) .i64 .i64 Try.underlying22 Try.underlying3 hi hz0 none 0 0 [] (run_firstCells_none w.drew i0.size 0 0 0) n h0 (by omega) (by omega) (by omega)
      (by rw [hz2]; omega) (by rw [hz2, Nat.zero_add, nextslicecap_zero h0]; omega)
    rw [Nat.zero_add, zeroCells_u8, zeroCells_u8] at h
    rw [h]
    congr 3
    simp
    omega
  obtain ⟨G, hG⟩ : ∃ G, G = grownCap w n 0 5 := ⟨_, rfl⟩
  rw [← hG] at hrz hGn hGm
  have HM := hide hGm
  clear hG hi hz0 hz1 hz2 hGm
  have h1 : ¬ ((n : Int) < 0) := by omega
  have h4 : (n : Int) > 0 := by omega
  go_enter Try.func66, Try.ntmps66
  go_wp2_with (at_builtin; refine Lib.wpList_append_run _ rfl _ _ _ _ rfl _ _ rfl rfl _ _ (hrz _) ?_)
  all_goals (go_ret; exact ⟨G, hGn, HM.out, rfl, rfl⟩)
theorem growb_any (n : Nat) (hn : n ≤ 1000000) (w : World) : Calls Try.prog 66 #[.slice none 0 0, .int .i64 n] w fun e w' =>
    ∃ (a : Option Addr) (c : Nat), e = .returned (.slice a 0 c) ∧ OwnB w.heap.size w' (.slice a 0 c) [] ∧ Below w.heap.size w w' := by
  by_cases h0 : n = 0
  · subst h0
    refine (growb_zero w).mono ?_
    rintro e w' ⟨rfl, rfl⟩
    exact ⟨none, 0, rfl, ownb_nil _ _, Below.refl _ _⟩
  · refine (growb_some n (by omega) hn w).mono ?_
    rintro e w' ⟨G, _, hm, rfl, rfl⟩
    exact ⟨_, G, rfl, ⟨⟨rfl, .inr ⟨w.heap.size, G, _, rfl, Nat.le_refl _, World.alloc_heap_new w.drew _, Nat.zero_le _, hm, by simp, by simp⟩⟩, Octs.nil⟩, (Below.refl _ w).drew.alloc (Nat.le_refl _) _⟩
theorem ownb_more {lo lo' : Nat} {w : World} {a b : Option Addr} {n c m d : Nat} {zs ys : List Int} (h : OwnB lo w (.slice a n c) zs) (Y : Byt lo' w (.slice b m d) ys) (hl : n + m ≤ 1000000) (hlo : lo ≤ w.heap.size) :
    ∃ a' c' w', (Builtin.append_ #[22, 22] 22 #[.slice a n c, .slice b m d]).run Try.prog w = .ok (.slice a' (n + m) c') w' ∧ OwnB lo w' (.slice a' (n + m) c') (zs ++ ys) ∧ Below lo w w' := by
  obtain ⟨_, _, e1, hB⟩ := ownb_seg h
  simp only [Value.slice.injEq] at e1
  obtain ⟨rfl, hn, rfl⟩ := e1
  have hym := Y.len.1
  by_cases h0 : m = 0
  · subst h0
    obtain rfl : ys = [] := List.length_eq_zero_iff.1 (by omega)
    refine ⟨a, c, w, appendb_none a n c (by have := hB.len.2; omega) b d w _, by simpa using h, Below.refl _ _⟩
  · obtain ⟨g, o, rfl, _, _⟩ := Y.row (by omega)
    obtain ⟨i0, hi, hz0, hz1, hz2⟩ := info_parts infoU8
    obtain ⟨v', w', hr, hown, hg, _⟩ := run_append_own (P := Try.prog) w lo 22 22 5 i0 (.int .u8 0) 1 1 Try.underlying22 hi hz0 hz1 hz2 rfl (by decide)
      _ zs.length (zs.map (Value.int .u8)) h.1 ⟨g, o, none⟩ m d (ys.map (Value.int .u8)) (by simp [hym])
      (fun j u hj => by
        rw [List.getElem?_map] at hj
        obtain ⟨z, hz', rfl⟩ := Option.map_eq_some_iff.1 hj
        have hjl : j < ys.length := (List.getElem?_eq_some_iff.1 hz').1
        have := (Y.cell (j := j) (by omega)).1
        rw [hz'] at this
        rw [Addr.add_lit]
        exact this)
      (fun u hu => by obtain ⟨z, _, rfl⟩ := List.mem_map.1 hu; rfl) (by unfold maxLen; omega) (by omega) hlo
    have hlen : (zs ++ ys).length = zs.length + m := by simp [hym]
    have ho : OwnB lo w' v' (zs ++ ys) := by
      refine ⟨?_, h.2.append Y.words⟩
      rw [hlen, List.map_append]
      exact hown
    have hbw : Below lo w w' := (Below.refl lo w).grown hg hlo (fun k hk => (h.1.lt k hk).1)
    obtain ⟨a', c', rfl, _⟩ := ownb_seg ho
    rw [hlen, ← hn] at hr ho
    exact ⟨a', c', w', hr, ho, hbw⟩
def flat (bs : List BV) (k : Nat) : List Int := ((bs.take k).map BV.zs).flatten
theorem flat_zero (bs : List BV) : flat bs 0 = [] := by simp [flat]
theorem flat_succ {bs : List BV} {k : Nat} {v : BV} (h : bs[k]? = some v) : flat bs (k + 1) = flat bs k ++ v.zs := by
  unfold flat
  rw [List.take_add_one, h, Option.toList_some, List.map_append, List.flatten_append]
  simp
theorem flat_le (bs : List BV) (k : Nat) : (flat bs k).length ≤ (flat bs bs.length).length := by
  unfold flat
  rw [List.take_length]
  conv => rhs; rw [← List.take_append_drop k bs, List.map_append, List.flatten_append, List.length_append]
  omega
set_option maxRecDepth 100000 in
set_option maxHeartbeats 2000000 in
theorem concat_any {w : World} {a : Option Addr} {cap L N : Nat} {bs : List BV} (R : Lists w a bs) (hL : bs.length = L) (hLl : L ≤ 1000) (hN : (flat bs L).length = N) (hl : N ≤ 1000000) :
    Calls Try.prog 56 #[.slice a L cap] w fun e w' => ∃ (a' : Option Addr) (c' : Nat), e = .returned (.slice a' N c') ∧ OwnB w.heap.size w' (.slice a' N c') (flat bs L) ∧ Below w.heap.size w w' := by
  have hR := hide R
  have HL := hide hL
  have HNN := hide hN
  have hgr := growb_any N hl w
  have HG := hide hgr
  have hle : ∀ k, (flat bs k).length ≤ N := fun k => by rw [← hN, ← hL]; exact flat_le bs k
  have HLE := hide hle
  clear R hL hN hgr hle
  go_enter Try.func56, Try.ntmps56
  go_wp2
  go_loopw [3, 11] (fun s i wr => ∃ k : Nat, k ≤ L ∧ s = .int .i64 ((flat bs k).length : Nat) ∧ i = .int .i64 k ∧ wr = w) (fun _ i _ => L - (intOf i).toNat)
  case atStart => exact ⟨0, Nat.zero_le _, rfl, rfl, rfl⟩
  case round =>
    obtain ⟨k, hk, rfl, rfl, rfl⟩ := hrel
    by_cases hkL : k < L
    · obtain ⟨v, hv⟩ : ∃ v, bs[k]? = some v := ⟨_, List.getElem?_eq_getElem (by have := HL.out; omega)⟩
      obtain ⟨g, o, rfl, hg, hc⟩ := hR.out.row k v hv
      have h1 := HLE.out (k + 1)
      have h2 := HLE.out k
      have h3 : (flat bs (k + 1)).length = (flat bs k).length + v.zs.length := by rw [flat_succ hv, List.length_append]
      have HS := hide h3
      have h4 : v.zs.length ≤ 1000000 := by omega
      have h5 : ¬ (((flat bs k).length : Int) + (v.zs.length : Int) < 0) := by omega
      replace h2 : (flat bs k).length ≤ 1000000 := by omega
      obtain ⟨S, hS⟩ : ∃ S, (flat bs k).length = S := ⟨_, rfl⟩
      obtain ⟨m, hm⟩ : ∃ m, v.zs.length = m := ⟨_, rfl⟩
      rw [hS, hm] at HS h5
      rw [hm] at hc h4
      rw [hS] at h2 ⊢
      generalize v.a = va at *
      generalize v.c = vc at *
      have hki : (k : Int) < (L : Int) := by omega
      clear h1 h3 hS hm hv
      go_wp2
      exact ⟨⟨k + 1, by omega, by rw [HS.out]; go_num, by go_num, trivial⟩, by simp [intOf]; omega⟩
    · obtain rfl : k = L := by omega
      rw [HNN.out]
      go_wp2_with fail
      refine HG.out.mono ?_
      rintro e w1 ⟨a1, c1, rfl, O1, B1⟩
      have HO := hide O1
      have HB := hide B1
      clear O1 B1
      go_wp2
      go_loopw [6, 27] (fun s i wx => ∃ (j S : Nat) (a2 : Option Addr) (c2 : Nat), j ≤ k ∧ s = .slice a2 S c2 ∧ Hid (S = (flat bs j).length) ∧ i = .int .i64 j ∧ Hid (OwnB wr.heap.size wx (.slice a2 S c2) (flat bs j)) ∧ Hid (Below wr.heap.size wr wx)) (fun _ i _ => k - (intOf i).toNat)
      case atStart => exact ⟨0, 0, a1, c1, Nat.zero_le _, rfl, rfl, rfl, (by rw [flat_zero]; exact HO), HB⟩
      case round =>
        obtain ⟨j, S, a2, c2, hj, rfl, HS, rfl, HO2, HB2⟩ := hrel
        by_cases hjL : j < k
        · obtain ⟨v, hv⟩ : ∃ v, bs[j]? = some v := ⟨_, List.getElem?_eq_getElem (by have := HL.out; omega)⟩
          obtain ⟨g, o, rfl, hg, hc⟩ := (hR.out.below HB2.out).row j v hv
          have Y := (hR.out.below HB2.out).each j v hv
          have h1 := HLE.out (j + 1)
          have h3 : (flat bs (j + 1)).length = (flat bs j).length + v.zs.length := by rw [flat_succ hv, List.length_append]
          obtain ⟨a3, c3, w3, hap, O3, B3⟩ := ownb_more HO2.out Y (by have := HS.out; omega) HB2.out.size
          rw [← flat_succ hv] at O3
          have HS3 : Hid (S + v.zs.length = (flat bs (j + 1)).length) := by show _ = _; rw [h3, HS.out]
          have HB3 := hide (HB2.out.trans B3)
          have HO3 := hide O3
          have HAP := hide hap
          generalize v.zs.length = m at *
          generalize v.a = va at *
          generalize v.c = vc at *
          have hji : (j : Int) < (k : Int) := by omega
          clear h1 h3 Y B3 O3 hap hv HO2 HB2
          go_wp2_with (at_builtin; refine Lib.wpList_append_run _ rfl _ _ _ _ rfl _ _ rfl rfl _ _ HAP.out ?_)
          exact ⟨⟨j + 1, S + m, a3, c3, by omega, rfl, HS3, by go_num, HO3, HB3⟩, by simp [intOf]; omega⟩
        · obtain rfl : j = k := by omega
          go_wp2
          go_ret
          obtain rfl : N = S := by rw [← HNN.out, HS.out]
          exact ⟨a2, c2, rfl, HO2.out, HB2.out⟩
theorem byt_quad {W : World} {g s : Nat} (h : Quad W g (lowk s)) : Byt g W (.slice (some ⟨g, 0, none⟩) 4 4) (le4 s) := by
  refine Byt.of_cells (le4_octs s) rfl (Nat.le_refl _) (Nat.le_refl _) h.lt (fun j hj => ⟨?_, h.thaw⟩)
  rw [Nat.zero_add, h.cell hj]
  have e : lowk s j = ((le4 s)[j]?.getD 0).toNat := by
    unfold lowk le4
    match j, hj with
    | 0, _ => simp; omega
    | 1, _ => simp; omega
    | 2, _ => simp; omega
    | 3, _ => simp; omega
  have h0 := (le4_octs s).getD j
  rw [e]
  congr 2
  omega
theorem le4_length (s : Nat) : (le4 s).length = 4 := rfl
set_option maxRecDepth 100000 in
set_option maxHeartbeats 2000000 in
theorem cseal_any {lo : Nat} {p : Option Addr} {f : Nat → Nat} {a : Option Addr} {n c : Nat} {zs : List Int} {w : World} (T : PT w p f) (hf : Nums f) (X : Byt lo w (.slice a n c) zs) (hl : n ≤ 900000) :
    Calls Try.prog 34 #[.pointer p, .slice a n c] w fun e w' => ∃ (a' : Option Addr) (c' : Nat), e = .returned (.slice a' (n + 4) c') ∧ Byt w.heap.size w' (.slice a' (n + 4) c') (zs ++ le4 (sumBy f zs)) ∧ Below w.heap.size w w' := by
  have hs := csum_any T hf X (by omega)
  have HX := hide X
  clear X T hf
  go_enter Try.func34, Try.ntmps34
  go_wp2_with fail
  refine hs.mono ?_
  rintro e w1 ⟨rfl, b1⟩
  clear hs
  obtain ⟨s, hs⟩ : ∃ s, sumBy f zs = s := ⟨_, rfl⟩
  rw [hs]
  have HSS := hide hs
  clear hs
  have hq := clow_any s w1
  go_wp2_with fail
  refine hq.mono ?_
  rintro e w2 ⟨rfl, b2⟩
  clear hq
  have B2 := b1.trans (b2.mono b1.size)
  have b3 := below_new w2 (.cells (quad (lowk s)) 81)
  have B3 := B2.trans (b3.mono B2.size)
  have Q := byt_quad (show Quad (w2.alloc (.cells (quad (lowk s)) 81)) w2.heap.size (lowk s) from Box.new w2 _)
  have X3 := HX.out.below B2 |>.below b3
  obtain ⟨w3, hw3⟩ : ∃ w3, w2.alloc (.cells (quad (lowk s)) 81) = w3 := ⟨_, rfl⟩
  have e3 : w3.heap.size = w2.heap.size + 1 := by rw [← hw3, World.size_alloc]
  have hn := HX.out.len.1
  rw [hw3] at b3 B3 Q X3
  have b4 := below_new w3 (.cells #[.slice a n c, .slice (some ⟨w2.heap.size, 0, none⟩) 4 4] 22)
  have R := Lists.lit w3 (w2.heap.size + 1) e3 [⟨a, c, zs⟩, ⟨some ⟨w2.heap.size, 0, none⟩, 4, le4 s⟩] (fun j v hv => by
    match j with
    | 0 => obtain rfl := Option.some.inj hv; rw [← hn]; exact X3.mono (Nat.zero_le _)
    | 1 => obtain rfl := Option.some.inj hv; exact Q.mono (Nat.zero_le _)
    | j + 2 => simp at hv) #[.slice a n c, .slice (some ⟨w2.heap.size, 0, none⟩) 4 4] (by rw [hn]; rfl)
  have hfl : flat [⟨a, c, zs⟩, ⟨some ⟨w2.heap.size, 0, none⟩, 4, le4 s⟩] 2 = zs ++ le4 s := by simp [flat]
  have hc := concat_any (cap := 2) (L := 2) (N := n + 4) R rfl (by omega) (by rw [hfl, List.length_append, hn]; rfl) (by omega)
  rw [hfl] at hc
  have HB := hide (B3.trans (b4.mono B3.size))
  rw [← hw3] at hc HB
  clear R hfl hn X3 Q B3 b3 b4 e3 hw3 HX b1 b2 B2
  clear w3
  go_wp2_with (refine wpList_store_row rfl 81 (.tmp 5) (.tmp 9) rfl w2.heap.size (quad (lowk s)) rfl rfl 81 _ (heap_alloc_last w2 _) (quad_info _) (by rw [quad_size]; rfl) (quad_one _) ?_; rw [World.setRow_alloc_new])
  refine hc.mono ?_
  rintro e w5 ⟨a5, c5, rfl, O, b5⟩
  have HB5 := hide (HB.out.trans (b5.mono HB.out.size))
  obtain ⟨a6, c6, e6, S⟩ := ownb_seg O
  have HS := hide ((show Byt _ w5 (.slice a5 (n + 4) c5) _ from e6 ▸ S).mono HB.out.size)
  clear hc O b5 e6 S
  go_wp2
  go_ret
  exact ⟨_, _, rfl, (by rw [HSS.out]; exact HS.out), HB5.out⟩
theorem all_range_int : ∀ (xs ys : List Int), xs.length = ys.length → ((List.range xs.length).all fun i => xs.getD i 0 == ys.getD i 0) = (xs == ys)
  | [], [], _ => rfl
  | x :: xs, y :: ys, h => by
    have ih := all_range_int xs ys (by simpa using h)
    rw [List.length_cons, List.range_succ_eq_map, List.all_cons, List.all_map]
    simp only [List.getD_cons_zero, Function.comp_def, List.getD_cons_succ, ih]
    simp [List.cons_beq_cons]
  | [], _ :: _, h => by simp at h
  | _ :: _, [], h => by simp at h
theorem run_equalIn_ints (d : Nat) (t e : TypeId) (n : Nat) (k k' : IntKind) (ht : Try.prog.underlying t = some (.array n e)) (he : Try.prog.underlying e = some (.int k')) (hsz : ∀ w, (sizeOf e).run Try.prog w = .ok 1 w)
    (xs ys : List Int) (hx : xs.length = n) (hy : ys.length = n) (w : World) :
    (Op.equalIn (d + 2) t (.agg (xs.map (Value.int k)).toArray) (.agg (ys.map (Value.int k)).toArray)).run Try.prog w = .ok (xs == ys) w := by
  rw [← all_range_int xs ys (hx.trans hy.symm), hx, List.range_eq_range', Op.equalIn]
  simp only [Sem.run_bind, run_underlying ht, Result.andThen_ok, hsz, Std.Legacy.Range.forIn_eq_forIn_range', Std.Legacy.Range.size, Nat.sub_zero, Nat.add_sub_cancel, Nat.div_one]
  have hl : ∀ i ∈ List.range' 0 n 1, i < n := fun i hi => by simpa using (List.mem_range'_1.1 hi).2
  generalize List.range' 0 n 1 = l at hl ⊢
  induction l with
  | nil => simp
  | cons i l ih =>
    have hi : i < n := hl i (by simp)
    have px : (part e (xs.map (Value.int k)).toArray (i * 1)).run Try.prog w = .ok (.int k (xs.getD i 0)) w := by
      simp [part, isAgg, run_underlying he, List.getD, List.getElem?_eq_getElem (show i < xs.length by omega)]
    have py : (part e (ys.map (Value.int k)).toArray (i * 1)).run Try.prog w = .ok (.int k (ys.getD i 0)) w := by
      simp [part, isAgg, run_underlying he, List.getD, List.getElem?_eq_getElem (show i < ys.length by omega)]
    have pe : (Op.equalIn (d + 1) e (.int k (xs.getD i 0)) (.int k (ys.getD i 0))).run Try.prog w = .ok (xs.getD i 0 == ys.getD i 0) w := run_equalIn_int w d e k k' _ _ he
    simp only [List.forIn_cons, Sem.run_bind, px, py, pe, Result.andThen_ok, List.all_cons]
    cases hb : (xs.getD i 0 == ys.getD i 0)
    · simp
    · simp only [Bool.not_true, Bool.false_eq_true, if_false, Sem.run_pure, Result.andThen_ok, Bool.true_and]
      exact ih fun j hj => hl j (by simp [hj])
theorem four_eq (xs ys : List Int) (hx : xs.length = 4) (hy : ys.length = 4) (w : World) : (Op.equalIn 10000 81 (.agg (xs.map (Value.int .u8)).toArray) (.agg (ys.map (Value.int .u8)).toArray)).run Try.prog w = .ok (xs == ys) w :=
  run_equalIn_ints 9998 81 5 4 .u8 .u8 Try.underlying81 Try.underlying5 (fun w => by kernel_rfl) xs ys hx hy w
set_option maxRecDepth 100000 in
set_option maxHeartbeats 400000 in
theorem copen_short (p : Option Addr) (a : Option Addr) (n c : Nat) (w : World) (h : n < 4) :
    Calls Try.prog 40 #[.pointer p, .slice a n c] w fun e w' => e = .returned (.tuple #[.slice none 0 0, .int .i64 7]) ∧ w' = w := by
  have hi : (n : Int) < 4 := by omega
  go_enter Try.func40, Try.ntmps40
  go_wp2
  refine bodyPost_ret (v := .tuple #[.slice none 0 0, .int .i64 7]) (by simp [results, Try.f40, go_sem]) rfl ?_
  exact ⟨rfl, rfl⟩
theorem run_arrayAt4 (a : Option Addr) (cap : Nat) (W : World) : (Instr.arrayAt 81 (.slice a 4 cap)).run Try.prog W = .ok (.pointer a) W := by
  simp [Instr.arrayAt, run_underlying Try.underlying81]
def OpSaid (zs : List Int) (er : Int) (w : World) (e : Ending) (w' : World) : Prop := ∃ (a : Option Addr) (n c : Nat), e = .returned (.tuple #[.slice a n c, .int .i64 er]) ∧ Byt w.heap.size w' (.slice a n c) zs ∧ Below w.heap.size w w'
theorem opsaid_none {er : Int} {w w' : World} {e : Ending} (h : e = .returned (.tuple #[.slice none 0 0, .int .i64 er])) (hb : Below w.heap.size w w') : OpSaid [] er w e w' := ⟨none, 0, 0, h, Byt.nil _ _, hb⟩
def openZ (f : Nat → Nat) (zs ys : List Int) : List Int × Int := if ys = le4 (sumBy f zs) then (zs, 0) else ([], 8)
set_option maxRecDepth 100000 in
set_option maxHeartbeats 4000000 in
theorem copen_some {lo : Nat} {p : Option Addr} {f : Nat → Nat} {q o m c : Nat} {zs ys : List Int} {w : World} (T : PT w p f) (hf : Nums f) (X : Byt lo w (.slice (some ⟨q, o, none⟩) (m + 4) c) (zs ++ ys)) (hz : zs.length = m) (hy : ys.length = 4) (hl : m ≤ 900000) :
    Calls Try.prog 40 #[.pointer p, .slice (some ⟨q, o, none⟩) (m + 4) c] w (OpSaid (openZ f zs ys).1 (openZ f zs ys).2 w) := by
  have hc : m + 4 ≤ c := X.len.2
  have hne : ¬ c = m := by omega
  have hw1 : IntKind.i64.wrap ((m : Int) + 4 - 4) = (m : Int) := by rw [IntKind.wrap_i64]; omega
  have hi : ¬ ((m : Int) + 4 < 4) := by omega
  have hX1 : Byt lo w (.slice (some ⟨q, o, none⟩) m c) zs := by
    have := X.take (k := m) (by rw [List.length_append]; omega)
    rwa [List.take_append_of_le_length (by omega), ← hz, List.take_length, hz] at this
  have HX1 := hide hX1
  have hcs : ∀ V, Below w.heap.size w V → Calls Try.prog 55 #[.pointer p, .slice (some ⟨q, o, none⟩) m c] V fun e w' => e = .returned (.int .u32 (sumBy f zs : Nat)) ∧ Below V.heap.size V w' := fun V hV => csum_any (T.below hV) hf (hX1.below hV) (by omega)
  match ys, hy with
  | [y0, y1, y2, y3], _ =>
    obtain ⟨O, hO⟩ : ∃ O, o + m = O := ⟨_, rfl⟩
    have hcell : ∀ V, Below w.heap.size w V → V.cell? ⟨q, O, none⟩ = some (.int .u8 y0) ∧ V.cell? ⟨q, O + 1, none⟩ = some (.int .u8 y1) ∧ V.cell? ⟨q, O + 2, none⟩ = some (.int .u8 y2) ∧ V.cell? ⟨q, O + 3, none⟩ = some (.int .u8 y3) := fun V hV => by
      have hb := X.below hV
      have get : ∀ i, i < 4 → V.cell? ⟨q, O + i, none⟩ = some (.int .u8 ([y0, y1, y2, y3][i]?.getD 0)) := fun i hi => by
        have := (hb.cell (j := m + i) (by omega)).1
        rw [List.getElem?_append_right (by omega), show m + i - zs.length = i by omega, show o + (m + i) = O + i by omega] at this
        exact this
      exact ⟨get 0 (by omega), get 1 (by omega), get 2 (by omega), get 3 (by omega)⟩
    have hnq : ∀ W : World, (Op.equalIn 10000 81 (.agg #[.int .u8 y0, .int .u8 y1, .int .u8 y2, .int .u8 y3]) (.agg (quad (lowk (sumBy f zs))))).run Try.prog W = .ok ([y0, y1, y2, y3] == le4 (sumBy f zs)) W := fun W => by
      rw [quad_le4]
      exact four_eq [y0, y1, y2, y3] (le4 (sumBy f zs)) rfl rfl W
    have hans : openZ f zs [y0, y1, y2, y3] = if ([y0, y1, y2, y3] == le4 (sumBy f zs)) = true then (zs, 0) else ([], 8) := by
      unfold openZ
      by_cases e : [y0, y1, y2, y3] = le4 (sumBy f zs)
      · rw [if_pos e, if_pos (by rw [e]; simp)]
      · rw [if_neg e, if_neg (by simpa using e)]
    have HC := hide hcell
    clear hcell X T hX1 hz
    obtain ⟨s, hs⟩ : ∃ s, sumBy f zs = s := ⟨_, rfl⟩
    rw [hs] at hcs hnq hans
    obtain ⟨d, hd⟩ : ∃ d, ([y0, y1, y2, y3] == le4 s) = d := ⟨_, rfl⟩
    rw [hd] at hnq hans
    obtain ⟨rs, er, hre⟩ : ∃ rs er, openZ f zs [y0, y1, y2, y3] = (rs, er) := ⟨_, _, rfl⟩
    rw [hre] at hans ⊢
    show Calls Try.prog 40 #[.pointer p, .slice (some ⟨q, o, none⟩) (m + 4) c] w (OpSaid rs er w)
    have HA := hide hans
    clear hans hre
    have HCS := hide hcs
    have HNQ := hide hnq
    clear hcs hnq hd hs hf
    go_enter Try.func40, Try.ntmps40
    go_wp2_with fail
    go_region
    clear hO
    go_wp2_with fail
    refine wp_yields 8 [.is (.slice (some ⟨q, O, none⟩) 4 (c - m)), .is (.pointer (some ⟨q, O, none⟩)), .is (.agg #[.int .u8 y0, .int .u8 y1, .int .u8 y2, .int .u8 y3]), .is (.pointer p), .is (.slice (some ⟨q, o, none⟩) m c), .is (.int .u32 (s : Nat)), .is (.agg (quad (lowk s))), .is (.bool (!d))] (by kernel_rfl) (by kernel_rfl) (lt_cons ?_ (lt_cons ?_ (lt_cons ?_ (lt_cons ?_ (lt_cons ?_ (lt_cons ?_ (lt_cons ?_ (lt_cons ?_ (lt_nil))))))))) ?_
    case refine_1 =>
      refine OpDoes.mk rfl ?_
      intro vs V hV hd K hK
      have d2 : vs 2 = .agg #[.int .u8 y0, .int .u8 y1, .int .u8 y2, .int .u8 y3] := hd 2 (by decide) (by kernel_rfl)
      have d6 : vs 6 = .agg (quad (lowk s)) := hd 6 (by decide) (by kernel_rfl)
      simp only [laidIn, List.getElem_toArray, List.getElem_cons_zero, List.getElem_cons_succ, List.getElem?_toArray, List.getElem?_cons_zero, List.getElem?_cons_succ, if_true, Act.put, List.setIfInBounds_toArray, List.set_cons_zero, List.set_cons_succ] at hK ⊢
      simp only [d2, d6] at hK ⊢
      have hn := HNQ.out V
      obtain ⟨QQ, hQQ⟩ : ∃ QQ, quad (lowk s) = QQ := ⟨_, rfl⟩
      rw [hQQ] at hn hK ⊢
      clear hQQ
      go_simp
      exact hK.out _ _ (Below.refl _ _) rfl (not_fresh rfl)
    case refine_2 =>
      refine OpDoes.mk rfl ?_
      intro vs V hV hd K hK
      have d5 : vs 5 = .int .u32 (s : Nat) := hd 5 (by decide) (by kernel_rfl)
      simp only [laidIn, List.getElem_toArray, List.getElem_cons_zero, List.getElem_cons_succ, List.getElem?_toArray, List.getElem?_cons_zero, List.getElem?_cons_succ, if_true, Act.put, List.setIfInBounds_toArray, List.set_cons_zero, List.set_cons_succ] at hK ⊢
      simp only [d5] at hK ⊢
      go_simp
      go_at_call 54
      refine (clow_any s V).mono ?_
      rintro e V' ⟨rfl, hb⟩
      exact hK.out _ _ hb rfl (not_fresh rfl)
    case refine_3 =>
      refine OpDoes.mk rfl ?_
      intro vs V hV hd K hK
      have d3 : vs 3 = .pointer p := hd 3 (by decide) (by kernel_rfl)
      have d4 : vs 4 = .slice (some ⟨q, o, none⟩) m c := hd 4 (by decide) (by kernel_rfl)
      simp only [laidIn, List.getElem_toArray, List.getElem_cons_zero, List.getElem_cons_succ, List.getElem?_toArray, List.getElem?_cons_zero, List.getElem?_cons_succ, if_true, Act.put, List.setIfInBounds_toArray, List.set_cons_zero, List.set_cons_succ] at hK ⊢
      simp only [d3, d4] at hK ⊢
      have hcs := HCS.out V (((Below.refl _ w).drew.drew).trans hV)
      clear hV
      go_simp
      go_at_call 55
      refine (hcs).mono ?_
      rintro e V' ⟨rfl, hb⟩
      exact hK.out _ _ hb rfl (not_fresh rfl)
    case refine_4 =>
      refine OpDoes.mk rfl ?_
      intro vs V hV hd K hK
      simp only [laidIn, List.getElem_toArray, List.getElem_cons_zero, List.getElem_cons_succ, List.getElem?_toArray, List.getElem?_cons_zero, List.getElem?_cons_succ, if_true, Act.put, List.setIfInBounds_toArray, List.set_cons_zero, List.set_cons_succ] at hK ⊢
      go_simp
      exact hK.out _ _ (Below.refl _ _) rfl (not_fresh rfl)
    case refine_5 =>
      refine OpDoes.mk rfl ?_
      intro vs V hV hd K hK
      simp only [laidIn, List.getElem_toArray, List.getElem_cons_zero, List.getElem_cons_succ, List.getElem?_toArray, List.getElem?_cons_zero, List.getElem?_cons_succ, if_true, Act.put, List.setIfInBounds_toArray, List.set_cons_zero, List.set_cons_succ] at hK ⊢
      go_simp
      exact hK.out _ _ (Below.refl _ _) rfl (not_fresh rfl)
    case refine_6 =>
      refine OpDoes.mk rfl ?_
      intro vs V hV hd K hK
      have d1 : vs 1 = .pointer (some ⟨q, O, none⟩) := hd 1 (by decide) (by kernel_rfl)
      simp only [laidIn, List.getElem_toArray, List.getElem_cons_zero, List.getElem_cons_succ, List.getElem?_toArray, List.getElem?_cons_zero, List.getElem?_cons_succ, if_true, Act.put, List.setIfInBounds_toArray, List.set_cons_zero, List.set_cons_succ] at hK ⊢
      simp only [d1] at hK ⊢
      obtain ⟨k0, k1, k2, k3⟩ := HC.out V (((Below.refl _ w).drew.drew).trans hV)
      go_simp
      exact hK.out _ _ (Below.refl _ _) rfl (not_fresh rfl)
    case refine_7 =>
      refine OpDoes.mk rfl ?_
      intro vs V hV hd K hK
      have d0 : vs 0 = .slice (some ⟨q, O, none⟩) 4 (c - m) := hd 0 (by decide) (by kernel_rfl)
      simp only [laidIn, List.getElem_toArray, List.getElem_cons_zero, List.getElem_cons_succ, List.getElem?_toArray, List.getElem?_cons_zero, List.getElem?_cons_succ, if_true, Act.put, List.setIfInBounds_toArray, List.set_cons_zero, List.set_cons_succ] at hK ⊢
      simp only [d0] at hK ⊢
      have h4 := run_arrayAt4 (some ⟨q, O, none⟩) (c - m) V
      go_simp
      exact hK.out _ _ (Below.refl _ _) rfl (not_fresh rfl)
    case refine_8 =>
      refine OpDoes.mk rfl ?_
      intro vs V hV hd K hK
      simp only [laidIn, List.getElem_toArray, List.getElem_cons_zero, List.getElem?_toArray, List.getElem?_cons_zero, List.getElem?_cons_succ, if_true, Act.put, List.setIfInBounds_toArray, List.set_cons_zero, List.set_cons_succ] at hK ⊢
      go_simp
      exact hK.out _ _ (Below.refl _ _) rfl (not_fresh rfl)
    case refine_9 =>
      intro vs W1 hV hR1 hne fuel
      have d0 : vs 0 = .slice (some ⟨q, O, none⟩) 4 (c - m) := hR1 0 (by decide)
      have d1 : vs 1 = .pointer (some ⟨q, O, none⟩) := hR1 1 (by decide)
      have d2 : vs 2 = .agg #[.int .u8 y0, .int .u8 y1, .int .u8 y2, .int .u8 y3] := hR1 2 (by decide)
      have d3 : vs 3 = .pointer p := hR1 3 (by decide)
      have d4 : vs 4 = .slice (some ⟨q, o, none⟩) m c := hR1 4 (by decide)
      have d5 : vs 5 = .int .u32 (s : Nat) := hR1 5 (by decide)
      have d6 : vs 6 = .agg (quad (lowk s)) := hR1 6 (by decide)
      have d7 : vs 7 = .bool (!d) := hR1 7 (by decide)
      simp only [laidIn, List.getElem?_toArray, List.getElem?_cons_zero, List.getElem?_cons_succ, if_true, Act.put, List.setIfInBounds_toArray, List.set_cons_zero, List.set_cons_succ]
      simp only [d0, d1, d2, d3, d4, d5, d6, d7]
      clear hR1 hne d0 d1 d2 d3 d4 d5 d6 d7
      clear vs
      clear hc hne hw1 hi
      replace hV := ((Below.refl _ w).drew.drew).trans hV
      have HV := hide hV
      have hcl := clone_any (HX1.out.below hV) (by omega)
      clear hV HC HCS HNQ
      refine wpAny_done (by kernel_rfl) ?_ _
      cases d with
      | false =>
        obtain ⟨rfl, rfl⟩ := Prod.mk.inj HA.out
        go_wp2
        refine bodyPost_ret (v := .tuple #[.slice none 0 0, .int .i64 8]) (by simp [results, Try.f40, go_sem]) rfl ?_
        exact opsaid_none rfl HV.out
      | true =>
        obtain ⟨rfl, rfl⟩ := Prod.mk.inj HA.out
        go_wp2_with fail
        refine hcl.mono ?_
        rintro e w2 ⟨a2, c2, rfl, S, b2⟩
        have HS := hide (S.mono HV.out.size)
        have HB := hide (HV.out.trans (b2.mono HV.out.size))
        clear hcl S b2
        go_wp2
        refine bodyPost_ret (v := .tuple #[.slice a2 m c2, .int .i64 0]) (by simp [results, Try.f40, go_sem]) rfl ?_
        exact ⟨_, _, _, rfl, HS.out, HB.out⟩
def bytRel (n : Nat) (zs : List Int) : Yield := .rel (fun v W => ∃ a c, v = .slice a n c ∧ Byt 0 W v zs) (fun _ _ _ hb h => by
  obtain ⟨a, c, e, h⟩ := h
  exact ⟨a, c, e, h.below hb⟩)
end Go.Proofs.Ytedjicimgalneaa
namespace Go.Proofs.Ytedjicimgalneaa
open Go.RowKit
end Go.Proofs.Ytedjicimgalneaa
namespace Go.Proofs.Ytedjicimgalneaa
open Go.RowKit
end Go.Proofs.Ytedjicimgalneaa
