/-
  The words of layer 9's laws: both Opens of any bytes, opened, awake.
-/
import Derived.Test.YtenmfkdnfhgkaaaJCTab
import Derived.Lib.SlBytesConst
namespace Go.Proofs.Ytenmfkdnfhgkaaa
open Go.RowKit

/-- What Open answers to any bytes. -/
def openB (f : Nat → Nat) (bs : List Int) : List Int × Int := if bs.length < 4 then ([], 7) else openZ f (bs.take (bs.length - 4)) (bs.drop (bs.length - 4))
theorem openB_append (f : Nat → Nat) (zs ys : List Int) (h : ys.length = 4) : openB f (zs ++ ys) = openZ f zs ys := by
  unfold openB
  rw [if_neg (by rw [List.length_append]; omega)]
  have : (zs ++ ys).length - 4 = zs.length := by rw [List.length_append]; omega
  rw [this, List.take_left, List.drop_left]
theorem openB_short (f : Nat → Nat) {bs : List Int} (h : bs.length < 4) : openB f bs = ([], 7) := if_pos h
theorem openB_sealed (f : Nat → Nat) (zs : List Int) : openB f (zs ++ le4 (sumBy f zs)) = (zs, 0) := by rw [openB_append _ _ _ rfl]; exact if_pos rfl
theorem parts4 {bs : List Int} {m : Nat} (h : bs.length = m + 4) : ∃ zs ys, bs = zs ++ ys ∧ zs.length = m ∧ ys.length = 4 := ⟨bs.take m, bs.drop m, (List.take_append_drop m bs).symm, by rw [List.length_take]; omega, by rw [List.length_drop]; omega⟩
theorem copen_any {lo : Nat} {p : Option Addr} {f : Nat → Nat} {a : Option Addr} {n c : Nat} {bs : List Int} {w : World} (T : PT w p f) (hf : Nums f) (X : Byt lo w (.slice a n c) bs) (hl : n ≤ 900000) :
    Calls Try.prog 20 #[.pointer p, .slice a n c] w (OpSaid (openB f bs).1 (openB f bs).2 w) := by
  have hn := X.len.1
  by_cases h : n < 4
  · rw [openB_short f (by omega)]
    refine (copen_short p a n c w h).mono ?_
    rintro e w' ⟨rfl, rfl⟩
    exact opsaid_none rfl (Below.refl _ _)
  · obtain ⟨q, o, rfl, _, _⟩ := X.row (by omega)
    obtain ⟨m, rfl⟩ : ∃ m, n = m + 4 := ⟨n - 4, by omega⟩
    obtain ⟨zs, ys, rfl, hz, hy⟩ := parts4 hn.symm
    rw [openB_append f zs ys hy]
    exact copen_some T hf X hz hy (by omega)
set_option maxRecDepth 100000 in
set_option maxHeartbeats 1000000 in
/-- opened, where just that is told. -/
theorem opened_yes {lo lo' : Nat} {a b : Option Addr} {n c m d : Nat} {bs ws : List Int} {w : World} (X : Byt lo w (.slice a n c) bs) (Y : Byt lo' w (.slice b m d) ws) (hl : n ≤ 900000) (er : Int) (h : openB cT bs = (ws, er)) :
    Calls Try.prog 22 #[.slice a n c, .int .i64 er, .slice b m d] w fun e w' => e = .returned (.bool true) ∧ Below w.heap.size w w' := by
  have ho := copen_any (PT.nil w) nums_cT X hl
  rw [h] at ho
  have HY := hide Y
  clear X Y h
  go_enter Try.func22, Try.ntmps22
  go_wp2_with fail
  refine ho.mono ?_
  rintro e w1 ⟨a1, n1, c1, rfl, S1, B1⟩
  have hs := sameb_yes S1 (HY.out.below B1) rfl
  have HB := hide B1
  clear ho S1 B1
  go_wp2_with fail
  refine hs.mono ?_
  rintro e w2 ⟨rfl, B2⟩
  have HB2 := hide (HB.out.trans (B2.mono HB.out.size))
  clear hs B2 HB
  go_wp2
  go_ret
  exact ⟨rfl, HB2.out⟩
/-- Bytes of a text, written out: a mark lies behind them. -/
theorem byt_marked (W : World) (g n : Nat) (hg : W.heap.size = g) (zs : List Int) (hz : Octs zs) (hn : zs.length = n) (cs : Array Value) (hc : cs = (zs.map (Value.int .u8)).toArray) :
    Byt g (W.alloc (.cells cs 5 (n, n + 1))) (.slice (some ⟨g, 0, none⟩) n n) zs := by
  subst hc hg hn
  refine ⟨hz, _, _, rfl, Nat.le_refl _, fun _ => ⟨_, 0, rfl, Nat.le_refl _, by simp, fun j hj => ?_, fun j hj => ?_⟩⟩
  · rw [cell_of_heap (World.alloc_heap_new W _), Nat.zero_add]
    simp [hj]
  · unfold World.frozen?
    simp only [World.alloc_heap_new]
    simp
    omega
theorem sum_text : sumBy cT [49, 50, 51, 52, 53, 54, 55, 56, 57] = 3421780262 := by decide +kernel
theorem sum_a : sumBy cT [97] = 3904355907 := by decide +kernel
theorem seal_a : [97] ++ le4 (sumBy cT [97]) = [97, 67, 190, 183, 232] := by rw [sum_a]; decide +kernel
theorem cT_one : cT 1 = 1996959894 := by decide +kernel
theorem open_a : openB cT [97, 67, 190, 183, 232] = ([97], 0) := by rw [← seal_a]; exact openB_sealed cT [97]
theorem sum_text_int : ((sumBy cT [49, 50, 51, 52, 53, 54, 55, 56, 57] : Nat) : Int) = 3421780262 := by rw [sum_text]; rfl
set_option maxRecDepth 100000 in
set_option maxHeartbeats 4000000 in
/-- awake. -/
theorem cawake_any (w : World) : Calls Try.prog 8 #[] w fun e w' => e = .returned (.bool true) ∧ Below w.heap.size w w' := by
  obtain ⟨Z, hZ⟩ : ∃ Z, (tabv fun _ => 0) = Z := ⟨_, rfl⟩
  have hz := tab_zero
  rw [hZ] at hz
  have HZ : Hid (Z.size = (tabv cT).size) := by show Z.size = _; rw [← hZ, tabv_size, tabv_size]
  clear hZ
  have HB0 := hide (Below.refl w.heap.size w)
  have hc1 := ctable_any w
  go_enter Try.func8, Try.ntmps8
  go_wp2_with fail
  refine hc1.mono ?_
  rintro e w2 ⟨rfl, b3⟩
  have HB4 := hide (HB0.out.trans (b3.mono HB0.out.size))
  clear hc1 b3 HB0
  have q5 := below_new w2 (.cells (tabv cT) 31)
  have y5 := (show Tab (w2.alloc (.cells (tabv cT) 31)) w2.heap.size cT from Box.new _ _)
  obtain ⟨u5, hu5⟩ : ∃ u, w2.alloc (.cells (tabv cT) 31) = u := ⟨_, rfl⟩
  have e5 : u5.heap.size = w2.heap.size + 1 := by rw [← hu5, World.size_alloc]
  rw [hu5] at q5 y5
  replace HB4 := hide (HB4.out.trans (q5.mono HB4.out.size))
  have q6 := below_new u5 (.cells #[.int .u8 97] 5)
  have y6 := byt_lit u5 (w2.heap.size + 1) 1 e5 [97] (octs_of rfl) rfl #[.int .u8 97] rfl
  obtain ⟨u6, hu6⟩ : ∃ u, u5.alloc (.cells #[.int .u8 97] 5) = u := ⟨_, rfl⟩
  have e6 : u6.heap.size = w2.heap.size + 2 := by rw [← hu6, World.size_alloc]; omega
  rw [hu6] at q6 y6
  replace y5 := y5.below q6
  replace HB4 := hide (HB4.out.trans (q6.mono HB4.out.size))
  have T1 := y5
  have hc7 := cseal_any (.inr ⟨_, rfl, y5⟩) nums_cT y6 (by omega)
  rw [← hu6, ← hu5] at hc7
  rw [← hu6, ← hu5] at HB4
  rw [← hu6, ← hu5] at T1
  clear y5 q5  y6 q6 
  clear e5 e6
  clear hu5 hu6
  go_wp2_with (refine wpList_store_row rfl 31 (.tmp 1) (.tmp 3) rfl w2.heap.size (tabv cT) rfl rfl 31 Z (heap_alloc_last w2 _) (tabv_info _) HZ.out (tabv_one _) ?_; rw [World.setRow_alloc_new])
  refine hc7.mono ?_
  rintro e w8 ⟨a1, c1, rfl, S1, b9⟩
  have HB10 := hide (HB4.out.trans (b9.mono HB4.out.size))
  replace T1 := T1.below b9
  clear hc7 b9 HB4
  clear hz
  rw [seal_a] at S1
  obtain ⟨g, hg⟩ : ∃ g, w2.heap.size = g := ⟨_, rfl⟩
  rw [hg] at T1 ⊢
  clear hg
  have kc : (convert 22 22 (.slice (some ⟨w8.heap.size, 0, none⟩) 9 9)).run Try.prog (w8.alloc (.cells #[.int .u8 49, .int .u8 50, .int .u8 51, .int .u8 52, .int .u8 53, .int .u8 54, .int .u8 55, .int .u8 56, .int .u8 57] 5)) = .ok (.slice (some ⟨w8.heap.size, 0, none⟩) 9 9) (w8.alloc (.cells #[.int .u8 49, .int .u8 50, .int .u8 51, .int .u8 52, .int .u8 53, .int .u8 54, .int .u8 55, .int .u8 56, .int .u8 57] 5 (9, 10))) := Lib.run_convert_bytes_const (P := Try.prog) w8 22 5 #[.int .u8 49, .int .u8 50, .int .u8 51, .int .u8 52, .int .u8 53, .int .u8 54, .int .u8 55, .int .u8 56, .int .u8 57] 9 9 Try.underlying22 Try.underlying5
  have q11 := below_new w8 (.cells #[.int .u8 49, .int .u8 50, .int .u8 51, .int .u8 52, .int .u8 53, .int .u8 54, .int .u8 55, .int .u8 56, .int .u8 57] 5 (9, 10))
  have y11 := byt_marked w8 w8.heap.size 9 rfl [49, 50, 51, 52, 53, 54, 55, 56, 57] (octs_of rfl) rfl #[.int .u8 49, .int .u8 50, .int .u8 51, .int .u8 52, .int .u8 53, .int .u8 54, .int .u8 55, .int .u8 56, .int .u8 57] rfl
  obtain ⟨u11, hu11⟩ : ∃ u, w8.alloc (.cells #[.int .u8 49, .int .u8 50, .int .u8 51, .int .u8 52, .int .u8 53, .int .u8 54, .int .u8 55, .int .u8 56, .int .u8 57] 5 (9, 10)) = u := ⟨_, rfl⟩
  have e11 : u11.heap.size = w8.heap.size + 1 := by rw [← hu11, World.size_alloc]
  rw [hu11] at q11 y11
  replace T1 := T1.below q11
  replace S1 := S1.below q11
  replace HB10 := hide (HB10.out.trans (q11.mono HB10.out.size))
  have hc12 := csum_any (.inr ⟨_, rfl, T1⟩) nums_cT y11 (by omega)
  rw [← hu11] at hc12
  rw [← hu11] at HB10
  rw [← hu11] at T1
  rw [← hu11] at S1
  clear y11 q11 
  clear e11
  clear hu11
  go_wp2_with fail
  refine hc12.mono ?_
  rintro e w13 ⟨rfl, b14⟩
  have HB15 := hide (HB10.out.trans (b14.mono HB10.out.size))
  replace T1 := T1.below b14
  replace S1 := S1.below b14
  clear hc12 b14 HB10
  clear kc
  rw [sum_text_int]
  have c1 := T1.cell (k := 1) (by omega)
  rw [cT_one] at c1
  have q16 := below_new w13 (.cells #[.int .u8 97, .int .u8 67, .int .u8 190, .int .u8 183, .int .u8 232] 5)
  have y16 := byt_lit w13 (w13.heap.size) 5 rfl [97, 67, 190, 183, 232] (octs_of rfl) rfl #[.int .u8 97, .int .u8 67, .int .u8 190, .int .u8 183, .int .u8 232] rfl
  obtain ⟨u16, hu16⟩ : ∃ u, w13.alloc (.cells #[.int .u8 97, .int .u8 67, .int .u8 190, .int .u8 183, .int .u8 232] 5) = u := ⟨_, rfl⟩
  have e16 : u16.heap.size = w13.heap.size + 1 := by rw [← hu16, World.size_alloc]
  rw [hu16] at q16 y16
  replace T1 := T1.below q16
  replace S1 := S1.below q16
  replace HB15 := hide (HB15.out.trans (q16.mono HB15.out.size))
  have hc17 := sameb_yes S1 y16 rfl
  rw [← hu16] at hc17
  rw [← hu16] at HB15
  rw [← hu16] at T1
  rw [← hu16] at S1
  clear y16 q16 
  clear e16
  clear hu16
  go_wp2_with fail
  refine hc17.mono ?_
  rintro e w18 ⟨rfl, b19⟩
  have HB20 := hide (HB15.out.trans (b19.mono HB15.out.size))
  replace T1 := T1.below b19
  replace S1 := S1.below b19
  clear hc17 b19 HB15
  clear T1
  clear c1
  have q21 := below_new w18 (.cells #[.int .u8 97] 5)
  have y21 := byt_lit w18 (w18.heap.size) 1 rfl [97] (octs_of rfl) rfl #[.int .u8 97] rfl
  obtain ⟨u21, hu21⟩ : ∃ u, w18.alloc (.cells #[.int .u8 97] 5) = u := ⟨_, rfl⟩
  have e21 : u21.heap.size = w18.heap.size + 1 := by rw [← hu21, World.size_alloc]
  rw [hu21] at q21 y21
  replace S1 := S1.below q21
  replace HB20 := hide (HB20.out.trans (q21.mono HB20.out.size))
  have hc22 := opened_yes S1 y21 (by omega) 0 open_a
  rw [← hu21] at hc22
  rw [← hu21] at HB20
  rw [← hu21] at S1
  clear y21 q21 
  clear e21
  clear hu21
  go_wp2_with fail
  refine hc22.mono ?_
  rintro e w23 ⟨rfl, b24⟩
  have HB25 := hide (HB20.out.trans (b24.mono HB20.out.size))
  replace S1 := S1.below b24
  clear hc22 b24 HB20
  clear S1
  go_wp2
  go_ret
  exact ⟨rfl, HB25.out⟩
end Go.Proofs.Ytenmfkdnfhgkaaa
