/-
  Joined: CWords CKnown CSealed.
-/
import Derived.Test.YtenmfkdnfhgkaaaJCTab
import Derived.Lib.SlBytesConst
namespace Go.Proofs.Ytenmfkdnfhgkaaa
open Go.RowKit
def openB (f : Nat → Nat) (bs : List Int) : List Int × Int := if bs.length < 4 then ([], 7) else openZ f (bs.take (bs.length - 4)) (bs.drop (bs.length - 4))
theorem openB_append (f : Nat → Nat) (zs ys : List Int) (h : ys.length = 4) : openB f (zs ++ ys) = openZ f zs ys := by
  unfold openB
  rw [if_neg (by rw [List.length_append]; omega)]
  have : (zs ++ ys).length - 4 = zs.length := by rw [List.length_append]; omega
  rw [this, List.take_left, List.drop_left]
theorem openB_short (f : Nat → Nat) {bs : List Int} (h : bs.length < 4) : openB f bs = ([], 7) := if_pos h
theorem openB_sealed (f : Nat → Nat) (zs : List Int) : openB f (zs ++ le4 (sumBy f zs)) = (zs, 0) := by rw [openB_append _ _ _ rfl]; exact if_pos rfl
theorem parts4 {bs : List Int} {m : Nat} (h : bs.length = m + 4) : ∃ zs ys, bs = zs ++ ys ∧ zs.length = m ∧ ys.length = 4 := ⟨bs.take m, bs.drop m, (List.take_append_drop m bs).symm, by rw [List.length_take]; omega, by rw [List.length_drop]; omega⟩
theorem copen_any {lo : Nat} {p : Option Addr} {f : Nat → Nat} {a : Option Addr} {n c : Nat} {bs : List Int} {w : World} (T : PT w p f) (hf : Nums f) (X : Byt lo w (.slice a n c) bs) (hl : n ≤ 900000) :
    Calls Try.prog 20 #[.pointer p, .slice a n c] w (OpSaid (openB f bs).1 (openB f bs).2 w) := by
  have hn := X.len.1
  by_cases h : n < 4
  · rw [openB_short f (by omega)]
    refine (copen_short p a n c w h).mono ?_
    rintro e w' ⟨rfl, rfl⟩
    exact opsaid_none rfl (Below.refl _ _)
  · obtain ⟨q, o, rfl, _, _⟩ := X.row (by omega)
    obtain ⟨m, rfl⟩ : ∃ m, n = m + 4 := ⟨n - 4, by omega⟩
    obtain ⟨zs, ys, rfl, hz, hy⟩ := parts4 hn.symm
    rw [openB_append f zs ys hy]
    exact copen_some T hf X hz hy (by omega)
set_option maxRecDepth 100000 in
set_option maxHeartbeats 1000000 in
theorem opened_yes {lo lo' : Nat} {a b : Option Addr} {n c m d : Nat} {bs ws : List Int} {w : World} (X : Byt lo w (.slice a n c) bs) (Y : Byt lo' w (.slice b m d) ws) (hl : n ≤ 900000) (er : Int) (h : openB cT bs = (ws, er)) :
    Calls Try.prog 22 #[.slice a n c, .int .i64 er, .slice b m d] w fun e w' => e = .returned (.bool true) ∧ Below w.heap.size w w' := by
  have ho := copen_any (PT.nil w) nums_cT X hl
  rw [h] at ho
  have HY := hide Y
  clear X Y h
  go_enter Try.func22, Try.ntmps22
  go_wp2_with fail
  refine ho.mono ?_
  rintro e w1 ⟨a1, n1, c1, rfl, S1, B1⟩
  have hs := sameb_yes S1 (HY.out.below B1) rfl
  have HB := hide B1
  clear ho S1 B1
  go_wp2_with fail
  refine hs.mono ?_
  rintro e w2 ⟨rfl, B2⟩
  have HB2 := hide (HB.out.trans (B2.mono HB.out.size))
  clear hs B2 HB
  go_wp2
  go_ret
  exact ⟨rfl, HB2.out⟩
theorem byt_marked (W : World) (g n : Nat) (hg : W.heap.size = g) (zs : List Int) (hz : Octs zs) (hn : zs.length = n) (cs : Array Value) (hc : cs = (zs.map (Value.int .u8)).toArray) :
    Byt g (W.alloc (.cells cs 5 (n, n + 1))) (.slice (some ⟨g, 0, none⟩) n n) zs := by
  subst hc hg hn
  refine ⟨hz, _, _, rfl, Nat.le_refl _, fun _ => ⟨_, 0, rfl, Nat.le_refl _, by simp, fun j hj => ?_, fun j hj => ?_⟩⟩
  · rw [cell_of_heap (World.alloc_heap_new W _), Nat.zero_add]
    simp [hj]
  · unfold World.frozen?
    simp only [World.alloc_heap_new]
    simp
    omega
theorem sum_text : sumBy cT [49, 50, 51, 52, 53, 54, 55, 56, 57] = 3421780262 := by decide +kernel
theorem sum_a : sumBy cT [97] = 3904355907 := by decide +kernel
theorem seal_a : [97] ++ le4 (sumBy cT [97]) = [97, 67, 190, 183, 232] := by rw [sum_a]; decide +kernel
theorem cT_one : cT 1 = 1996959894 := by decide +kernel
theorem open_a : openB cT [97, 67, 190, 183, 232] = ([97], 0) := by rw [← seal_a]; exact openB_sealed cT [97]
theorem sum_text_int : ((sumBy cT [49, 50, 51, 52, 53, 54, 55, 56, 57] : Nat) : Int) = 3421780262 := by rw [sum_text]; rfl
set_option maxRecDepth 100000 in
set_option maxHeartbeats 4000000 in
theorem cawake_any (w : World) : Calls Try.prog 8 #[] w fun e w' => e = .returned (.bool true) ∧ Below w.heap.size w w' := by
  obtain ⟨Z, hZ⟩ : ∃ Z, (tabv fun _ => 0) = Z := ⟨_, rfl⟩
  have hz := tab_zero
  rw [hZ] at hz
  have HZ : Hid (Z.size = (tabv cT).size) := by show Z.size = _; rw [← hZ, tabv_size, tabv_size]
  clear hZ
  have HB0 := hide (Below.refl w.heap.size w)
  have hc1 := ctable_any w
  go_enter Try.func8, Try.ntmps8
  go_wp2_with fail
  refine hc1.mono ?_
  rintro e w2 ⟨rfl, b3⟩
  have HB4 := hide (HB0.out.trans (b3.mono HB0.out.size))
  clear hc1 b3 HB0
  have q5 := below_new w2 (.cells (tabv cT) 31)
  have y5 := (show Tab (w2.alloc (.cells (tabv cT) 31)) w2.heap.size cT from Box.new _ _)
  obtain ⟨u5, hu5⟩ : ∃ u, w2.alloc (.cells (tabv cT) 31) = u := ⟨_, rfl⟩
  have e5 : u5.heap.size = w2.heap.size + 1 := by rw [← hu5, World.size_alloc]
  rw [hu5] at q5 y5
  replace HB4 := hide (HB4.out.trans (q5.mono HB4.out.size))
  have q6 := below_new u5 (.cells #[.int .u8 97] 5)
  have y6 := byt_lit u5 (w2.heap.size + 1) 1 e5 [97] (octs_of rfl) rfl #[.int .u8 97] rfl
  obtain ⟨u6, hu6⟩ : ∃ u, u5.alloc (.cells #[.int .u8 97] 5) = u := ⟨_, rfl⟩
  have e6 : u6.heap.size = w2.heap.size + 2 := by rw [← hu6, World.size_alloc]; omega
  rw [hu6] at q6 y6
  replace y5 := y5.below q6
  replace HB4 := hide (HB4.out.trans (q6.mono HB4.out.size))
  have T1 := y5
  have hc7 := cseal_any (.inr ⟨_, rfl, y5⟩) nums_cT y6 (by omega)
  rw [← hu6, ← hu5] at hc7
  rw [← hu6, ← hu5] at HB4
  rw [← hu6, ← hu5] at T1
  clear y5 q5  y6 q6 
  clear e5 e6
  clear hu5 hu6
  go_wp2_with (refine wpList_store_row rfl 31 (.tmp 1) (.tmp 3) rfl w2.heap.size (tabv cT) rfl rfl 31 Z (heap_alloc_last w2 _) (tabv_info _) HZ.out (tabv_one _) ?_; rw [World.setRow_alloc_new])
  refine hc7.mono ?_
  rintro e w8 ⟨a1, c1, rfl, S1, b9⟩
  have HB10 := hide (HB4.out.trans (b9.mono HB4.out.size))
  replace T1 := T1.below b9
  clear hc7 b9 HB4
  clear hz
  rw [seal_a] at S1
  obtain ⟨g, hg⟩ : ∃ g, w2.heap.size = g := ⟨_, rfl⟩
  rw [hg] at T1 ⊢
  clear hg
  have kc : (convert 22 22 (.slice (some ⟨w8.heap.size, 0, none⟩) 9 9)).run Try.prog (w8.alloc (.cells #[.int .u8 49, .int .u8 50, .int .u8 51, .int .u8 52, .int .u8 53, .int .u8 54, .int .u8 55, .int .u8 56, .int .u8 57] 5)) = .ok (.slice (some ⟨w8.heap.size, 0, none⟩) 9 9) (w8.alloc (.cells #[.int .u8 49, .int .u8 50, .int .u8 51, .int .u8 52, .int .u8 53, .int .u8 54, .int .u8 55, .int .u8 56, .int .u8 57] 5 (9, 10))) := Lib.run_convert_bytes_const (P := Try.prog) w8 22 5 #[.int .u8 49, .int .u8 50, .int .u8 51, .int .u8 52, .int .u8 53, .int .u8 54, .int .u8 55, .int .u8 56, .int .u8 57] 9 9 Try.underlying22 Try.underlying5
  have q11 := below_new w8 (.cells #[.int .u8 49, .int .u8 50, .int .u8 51, .int .u8 52, .int .u8 53, .int .u8 54, .int .u8 55, .int .u8 56, .int .u8 57] 5 (9, 10))
  have y11 := byt_marked w8 w8.heap.size 9 rfl [49, 50, 51, 52, 53, 54, 55, 56, 57] (octs_of rfl) rfl #[.int .u8 49, .int .u8 50, .int .u8 51, .int .u8 52, .int .u8 53, .int .u8 54, .int .u8 55, .int .u8 56, .int .u8 57] rfl
  obtain ⟨u11, hu11⟩ : ∃ u, w8.alloc (.cells #[.int .u8 49, .int .u8 50, .int .u8 51, .int .u8 52, .int .u8 53, .int .u8 54, .int .u8 55, .int .u8 56, .int .u8 57] 5 (9, 10)) = u := ⟨_, rfl⟩
  have e11 : u11.heap.size = w8.heap.size + 1 := by rw [← hu11, World.size_alloc]
  rw [hu11] at q11 y11
  replace T1 := T1.below q11
  replace S1 := S1.below q11
  replace HB10 := hide (HB10.out.trans (q11.mono HB10.out.size))
  have hc12 := csum_any (.inr ⟨_, rfl, T1⟩) nums_cT y11 (by omega)
  rw [← hu11] at hc12
  rw [← hu11] at HB10
  rw [← hu11] at T1
  rw [← hu11] at S1
  clear y11 q11 
  clear e11
  clear hu11
  go_wp2_with fail
  refine hc12.mono ?_
  rintro e w13 ⟨rfl, b14⟩
  have HB15 := hide (HB10.out.trans (b14.mono HB10.out.size))
  replace T1 := T1.below b14
  replace S1 := S1.below b14
  clear hc12 b14 HB10
  clear kc
  rw [sum_text_int]
  have c1 := T1.cell (k := 1) (by omega)
  rw [cT_one] at c1
  have q16 := below_new w13 (.cells #[.int .u8 97, .int .u8 67, .int .u8 190, .int .u8 183, .int .u8 232] 5)
  have y16 := byt_lit w13 (w13.heap.size) 5 rfl [97, 67, 190, 183, 232] (octs_of rfl) rfl #[.int .u8 97, .int .u8 67, .int .u8 190, .int .u8 183, .int .u8 232] rfl
  obtain ⟨u16, hu16⟩ : ∃ u, w13.alloc (.cells #[.int .u8 97, .int .u8 67, .int .u8 190, .int .u8 183, .int .u8 232] 5) = u := ⟨_, rfl⟩
  have e16 : u16.heap.size = w13.heap.size + 1 := by rw [← hu16, World.size_alloc]
  rw [hu16] at q16 y16
  replace T1 := T1.below q16
  replace S1 := S1.below q16
  replace HB15 := hide (HB15.out.trans (q16.mono HB15.out.size))
  have hc17 := sameb_yes S1 y16 rfl
  rw [← hu16] at hc17
  rw [← hu16] at HB15
  rw [← hu16] at T1
  rw [← hu16] at S1
  clear y16 q16 
  clear e16
  clear hu16
  go_wp2_with fail
  refine hc17.mono ?_
  rintro e w18 ⟨rfl, b19⟩
  have HB20 := hide (HB15.out.trans (b19.mono HB15.out.size))
  replace T1 := T1.below b19
  replace S1 := S1.below b19
  clear hc17 b19 HB15
  clear T1
  clear c1
  have q21 := below_new w18 (.cells #[.int .u8 97] 5)
  have y21 := byt_lit w18 (w18.heap.size) 1 rfl [97] (octs_of rfl) rfl #[.int .u8 97] rfl
  obtain ⟨u21, hu21⟩ : ∃ u, w18.alloc (.cells #[.int .u8 97] 5) = u := ⟨_, rfl⟩
  have e21 : u21.heap.size = w18.heap.size + 1 := by rw [← hu21, World.size_alloc]
  rw [hu21] at q21 y21
  replace S1 := S1.below q21
  replace HB20 := hide (HB20.out.trans (q21.mono HB20.out.size))
  have hc22 := opened_yes S1 y21 (by omega) 0 open_a
  rw [← hu21] at hc22
  rw [← hu21] at HB20
  rw [← hu21] at S1
  clear y21 q21 
  clear e21
  clear hu21
  go_wp2_with fail
  refine hc22.mono ?_
  rintro e w23 ⟨rfl, b24⟩
  have HB25 := hide (HB20.out.trans (b24.mono HB20.out.size))
  replace S1 := S1.below b24
  clear hc22 b24 HB20
  clear S1
  go_wp2
  go_ret
  exact ⟨rfl, HB25.out⟩
theorem sum_none_int : ((sumBy cT [] : Nat) : Int) = 0 := by decide +kernel
theorem open_short : openB cT [] = ([], 7) := openB_short cT (by decide)
theorem open_wrong : openB cT [1, 2, 3, 4] = ([], 8) := by decide +kernel
theorem open_none : openB cT [0, 0, 0, 0] = ([], 0) := by decide +kernel
set_option maxRecDepth 100000 in
set_option maxHeartbeats 4000000 in
theorem cknown_any (w : World) : Calls Try.prog 5 #[] w fun e w' => e = .returned (.bool true) ∧ Below w.heap.size w w' := by
  have HB0 := hide (Below.refl w.heap.size w)
  have hc1 := cawake_any w
  go_enter Try.func5, Try.ntmps5
  go_wp2_with fail
  refine hc1.mono ?_
  rintro e w2 ⟨rfl, b3⟩
  have HB4 := hide (HB0.out.trans (b3.mono HB0.out.size))
  clear hc1 b3 HB0
  have hc5 := csum_any (PT.nil w2) nums_cT (Byt.nil 0 w2) (by omega)
  go_wp2_with fail
  refine hc5.mono ?_
  rintro e w6 ⟨rfl, b7⟩
  have HB8 := hide (HB4.out.trans (b7.mono HB4.out.size))
  clear hc5 b7 HB4
  rw [sum_none_int]
  have kc : (convert 22 22 (.slice (some ⟨w6.heap.size, 0, none⟩) 9 9)).run Try.prog (w6.alloc (.cells #[.int .u8 49, .int .u8 50, .int .u8 51, .int .u8 52, .int .u8 53, .int .u8 54, .int .u8 55, .int .u8 56, .int .u8 57] 5)) = .ok (.slice (some ⟨w6.heap.size, 0, none⟩) 9 9) (w6.alloc (.cells #[.int .u8 49, .int .u8 50, .int .u8 51, .int .u8 52, .int .u8 53, .int .u8 54, .int .u8 55, .int .u8 56, .int .u8 57] 5 (9, 10))) := Lib.run_convert_bytes_const (P := Try.prog) w6 22 5 #[.int .u8 49, .int .u8 50, .int .u8 51, .int .u8 52, .int .u8 53, .int .u8 54, .int .u8 55, .int .u8 56, .int .u8 57] 9 9 Try.underlying22 Try.underlying5
  have q9 := below_new w6 (.cells #[.int .u8 49, .int .u8 50, .int .u8 51, .int .u8 52, .int .u8 53, .int .u8 54, .int .u8 55, .int .u8 56, .int .u8 57] 5 (9, 10))
  have y9 := byt_marked w6 w6.heap.size 9 rfl [49, 50, 51, 52, 53, 54, 55, 56, 57] (octs_of rfl) rfl #[.int .u8 49, .int .u8 50, .int .u8 51, .int .u8 52, .int .u8 53, .int .u8 54, .int .u8 55, .int .u8 56, .int .u8 57] rfl
  obtain ⟨u9, hu9⟩ : ∃ u, w6.alloc (.cells #[.int .u8 49, .int .u8 50, .int .u8 51, .int .u8 52, .int .u8 53, .int .u8 54, .int .u8 55, .int .u8 56, .int .u8 57] 5 (9, 10)) = u := ⟨_, rfl⟩
  have e9 : u9.heap.size = w6.heap.size + 1 := by rw [← hu9, World.size_alloc]
  rw [hu9] at q9 y9
  replace HB8 := hide (HB8.out.trans (q9.mono HB8.out.size))
  have hc10 := csum_any (PT.nil _) nums_cT y9 (by omega)
  rw [← hu9] at hc10
  rw [← hu9] at HB8
  clear y9 q9 
  clear e9
  clear hu9
  go_wp2_with fail
  refine hc10.mono ?_
  rintro e w11 ⟨rfl, b12⟩
  have HB13 := hide (HB8.out.trans (b12.mono HB8.out.size))
  clear hc10 b12 HB8
  clear kc
  rw [sum_text_int]
  have hc14 := opened_yes (Byt.nil 0 w11) (Byt.nil 0 w11) (by omega) 7 open_short
  go_wp2_with fail
  refine hc14.mono ?_
  rintro e w15 ⟨rfl, b16⟩
  have HB17 := hide (HB13.out.trans (b16.mono HB13.out.size))
  clear hc14 b16 HB13
  have q18 := below_new w15 (.cells #[.int .u8 1, .int .u8 2, .int .u8 3, .int .u8 4] 5)
  have y18 := byt_lit w15 (w15.heap.size) 4 rfl [1, 2, 3, 4] (octs_of rfl) rfl #[.int .u8 1, .int .u8 2, .int .u8 3, .int .u8 4] rfl
  obtain ⟨u18, hu18⟩ : ∃ u, w15.alloc (.cells #[.int .u8 1, .int .u8 2, .int .u8 3, .int .u8 4] 5) = u := ⟨_, rfl⟩
  have e18 : u18.heap.size = w15.heap.size + 1 := by rw [← hu18, World.size_alloc]
  rw [hu18] at q18 y18
  replace HB17 := hide (HB17.out.trans (q18.mono HB17.out.size))
  have hc19 := opened_yes y18 (Byt.nil 0 u18) (by omega) 8 open_wrong
  rw [← hu18] at hc19
  rw [← hu18] at HB17
  clear y18 q18 
  clear e18
  clear hu18
  go_wp2_with fail
  refine hc19.mono ?_
  rintro e w20 ⟨rfl, b21⟩
  have HB22 := hide (HB17.out.trans (b21.mono HB17.out.size))
  clear hc19 b21 HB17
  have q23 := below_new w20 (.cells #[.int .u8 0, .int .u8 0, .int .u8 0, .int .u8 0] 5)
  have y23 := byt_lit w20 (w20.heap.size) 4 rfl [0, 0, 0, 0] (octs_of rfl) rfl #[.int .u8 0, .int .u8 0, .int .u8 0, .int .u8 0] rfl
  obtain ⟨u23, hu23⟩ : ∃ u, w20.alloc (.cells #[.int .u8 0, .int .u8 0, .int .u8 0, .int .u8 0] 5) = u := ⟨_, rfl⟩
  have e23 : u23.heap.size = w20.heap.size + 1 := by rw [← hu23, World.size_alloc]
  rw [hu23] at q23 y23
  replace HB22 := hide (HB22.out.trans (q23.mono HB22.out.size))
  have hc24 := opened_yes y23 (Byt.nil 0 u23) (by omega) 0 open_none
  rw [← hu23] at hc24
  rw [← hu23] at HB22
  clear y23 q23 
  clear e23
  clear hu23
  go_wp2_with fail
  refine hc24.mono ?_
  rintro e w25 ⟨rfl, b26⟩
  have HB27 := hide (HB22.out.trans (b26.mono HB22.out.size))
  clear hc24 b26 HB22
  go_wp2
  go_ret
  exact ⟨rfl, HB27.out⟩
theorem sum_sealed {zs : List Int} (ho : Octs zs) : ((sumBy cT (zs ++ le4 (sumBy cT zs)) : Nat) : Int) = 558161692 := by
  unfold sumBy
  rw [show 4294967295 - cReg cT 4294967295 zs = cSum zs from rfl, cReg_sealed ho]
  rfl
theorem open_turned {ts : List Int} {m : Nat} (ho : Octs ts) (hl : ts.length = m + 4) (h : cReg cT 4294967295 ts ≠ 3736805603) : openB cT ts = ([], 8) := by
  obtain ⟨zs, ys, rfl, _, hy⟩ := parts4 hl
  have hz : Octs zs := fun z hz => ho z (List.mem_append_left _ hz)
  have hys : Octs ys := fun z hz => ho z (List.mem_append_right _ hz)
  obtain ⟨s, hs, e⟩ := le4_of hys hy
  rw [openB_append cT zs ys hy]
  unfold openZ
  rw [if_neg]
  intro e2
  exact h ((cReg_opened hz hs e).2 e2)
theorem turn_one {ts : List Int} {N F m i j q : Nat} (ho : Octs ts) (hl : ts.length = N) (hk : 8 * j + q = F + i) (hq : q < 8) (hj : j < N) (hb : m / 2 ^ i % 2 = 1) (h : cReg cT 4294967295 ts = 3736805603 ^^^ cSn (8 * N - F) (m % 2 ^ i)) :
    cReg cT 4294967295 (ts.set j (bx (ts[j]?.getD 0) (2 ^ q))) = 3736805603 ^^^ cSn (8 * N - F) (m % 2 ^ (i + 1)) := by
  rw [cReg_flip (by omega) hq ho, h, mask_succ m i, hb, Nat.mul_one, cSn_xor, hl]
  have e : cSn (8 * N - F) (2 ^ i) = cSn (8 * N - (8 * j + q)) 1 := by
    rw [show 8 * N - F = (8 * N - (8 * j + q)) + i by omega, cSn_add]
    have := cSn_pow i 1
    rw [Nat.mul_one] at this
    rw [this]
  rw [e, Nat.xor_assoc, Nat.xor_comm (cSn (8 * N - F) (m % 2 ^ i))]
theorem turn_none {r N F m i : Nat} (hb : ¬ m / 2 ^ i % 2 = 1) (h : r = 3736805603 ^^^ cSn (8 * N - F) (m % 2 ^ i)) : r = 3736805603 ^^^ cSn (8 * N - F) (m % 2 ^ (i + 1)) := by
  rw [mask_succ m i, show m / 2 ^ i % 2 = 0 by omega, Nat.mul_zero, Nat.zero_xor]
  exact h
theorem turned_all {r N F m : Nat} (h0 : m ≠ 0) (hm : m < 4294967296) (h : r = 3736805603 ^^^ cSn (8 * N - F) (m % 2 ^ 32)) : r ≠ 3736805603 := by
  intro e
  rw [e, show m % 2 ^ 32 = m from Nat.mod_eq_of_lt hm] at h
  have h2 : 3736805603 ^^^ 3736805603 = 3736805603 ^^^ (3736805603 ^^^ cSn (8 * N - F) m) := by rw [← h]
  rw [Nat.xor_self, ← Nat.xor_assoc, Nat.xor_self, Nat.zero_xor] at h2
  exact h0 (cSn_eq_zero hm _ h2.symm)
theorem sealed_start {zs : List Int} (ho : Octs zs) (N F m : Nat) : cReg cT 4294967295 (zs ++ le4 (sumBy cT zs)) = 3736805603 ^^^ cSn (8 * N - F) (m % 2 ^ 0) := by
  rw [show m % 2 ^ 0 = 0 from Nat.mod_one m, cSn_zero, Nat.xor_zero]
  exact cReg_sealed ho
theorem bit_tmod (m k : Nat) : ((m : Int) / 2 ^ k).tmod 2 = ((m / 2 ^ k % 2 : Nat) : Int) := by
  have e : (m : Int) / 2 ^ k = ((m / 2 ^ k : Nat) : Int) := by simp
  rw [e, Int.tmod_eq_emod_of_nonneg (Int.natCast_nonneg _)]
  simp
theorem oct_bit {q : Nat} (h : q < 8) : (0 : Int) ≤ 2 ^ q ∧ (2 : Int) ^ q < 256 := by
  have key : ∀ q : Fin 8, (0 : Int) ≤ 2 ^ (q : Nat) ∧ (2 : Int) ^ (q : Nat) < 256 := by decide
  exact key ⟨q, h⟩
set_option maxRecDepth 100000 in
set_option maxHeartbeats 1000000 in
theorem csealed_long (a : Option Addr) (n c : Nat) (x m : Int) (w : World) (h : 2000 < n) :
    Calls Try.prog 6 #[.slice a n c, .int .i64 x, .int .u32 m] w fun e w' => e = .returned (.bool true) ∧ Below w.heap.size w w' := by
  have hk := cknown_any w
  have hi : 2000 < (n : Int) := by omega
  go_enter Try.func6, Try.ntmps6
  go_wp2_with fail
  refine hk.mono ?_
  rintro e w1 ⟨rfl, hb⟩
  clear hk
  go_wp2
  go_ret
  exact ⟨rfl, hb⟩
set_option maxRecDepth 100000 in
set_option maxHeartbeats 4000000 in
theorem csealed_none {a : Option Addr} {n c : Nat} {zs : List Int} {w : World} (X : Byt 0 w (.slice a n c) zs) (x : Int) (h : n ≤ 2000) :
    Calls Try.prog 6 #[.slice a n c, .int .i64 x, .int .u32 0] w fun e w' => e = .returned (.bool true) ∧ Below w.heap.size w w' := by
  have hi : ¬ 2000 < (n : Int) := by omega
  have HO := hide X.words
  have hss := sum_sealed HO.out
  have HN := hide X.len.1.symm
  have hsl : n + 4 ≤ 900000 := by omega
  have HB0 := hide (Below.refl w.heap.size w)
  have hc1 := cknown_any w
  go_enter Try.func6, Try.ntmps6
  go_wp2_with fail
  refine hc1.mono ?_
  rintro e w2 ⟨rfl, b3⟩
  have HB4 := hide (HB0.out.trans (b3.mono HB0.out.size))
  replace X := X.below b3
  clear hc1 b3 HB0
  have hc5 := cseal_any (PT.nil w2) nums_cT X (by omega)
  go_wp2_with fail
  refine hc5.mono ?_
  rintro e w6 ⟨s1, cs, rfl, S, b7⟩
  have HB8 := hide (HB4.out.trans (b7.mono HB4.out.size))
  replace X := X.below b7
  clear hc5 b7 HB4
  have hc9 := csum_any (PT.nil w6) nums_cT S (by omega)
  go_wp2_with fail
  refine hc9.mono ?_
  rintro e w10 ⟨rfl, b11⟩
  have HB12 := hide (HB8.out.trans (b11.mono HB8.out.size))
  replace X := X.below b11
  replace S := S.below b11
  clear hc9 b11 HB8
  rw [hss]
  have hc13 := opened_yes S X hsl 0 (openB_sealed cT zs)
  go_wp2_with fail
  refine hc13.mono ?_
  rintro e w14 ⟨rfl, b15⟩
  have HB16 := hide (HB12.out.trans (b15.mono HB12.out.size))
  replace X := X.below b15
  replace S := S.below b15
  clear hc13 b15 HB12
  go_wp2
  go_ret
  exact ⟨rfl, HB16.out⟩
set_option maxRecDepth 100000 in
set_option maxHeartbeats 4000000 in
theorem csealed_some {a : Option Addr} {n c : Nat} {zs : List Int} {w : World} (X : Byt 0 w (.slice a n c) zs) (x : Int) (m : Nat) (hm : m < 4294967296) (h0 : m ≠ 0) (h : n ≤ 2000) :
    Calls Try.prog 6 #[.slice a n c, .int .i64 x, .int .u32 (m : Nat)] w fun e w' => e = .returned (.bool true) ∧ Below w.heap.size w w' := by
  have hi : ¬ 2000 < (n : Int) := by omega
  have HO := hide X.words
  have hss := sum_sealed HO.out
  have HN := hide X.len.1.symm
  have hsl : n + 4 ≤ 900000 := by omega
  have hm0 : ((m : Int) == 0) = false := by simpa using h0
  have HM := hide hm
  have HM0 := hide h0
  clear h0
  have HB0 := hide (Below.refl w.heap.size w)
  have hc1 := cknown_any w
  go_enter Try.func6, Try.ntmps6
  go_wp2_with fail
  refine hc1.mono ?_
  rintro e w2 ⟨rfl, b3⟩
  have HB4 := hide (HB0.out.trans (b3.mono HB0.out.size))
  replace X := X.below b3
  clear hc1 b3 HB0
  have hlo : w.heap.size ≤ w2.heap.size := HB4.out.size
  have hc5 := cseal_any (PT.nil w2) nums_cT X (by omega)
  go_wp2_with fail
  refine hc5.mono ?_
  rintro e w6 ⟨s1, cs, rfl, S, b7⟩
  have HB8 := hide (HB4.out.trans (b7.mono HB4.out.size))
  replace X := X.below b7
  clear hc5 b7 HB4
  have hc9 := csum_any (PT.nil w6) nums_cT S (by omega)
  go_wp2_with fail
  refine hc9.mono ?_
  rintro e w10 ⟨rfl, b11⟩
  have HB12 := hide (HB8.out.trans (b11.mono HB8.out.size))
  replace X := X.below b11
  replace S := S.below b11
  clear hc9 b11 HB8
  rw [hss]
  have hc13 := opened_yes S X hsl 0 (openB_sealed cT zs)
  go_wp2_with fail
  refine hc13.mono ?_
  rintro e w14 ⟨rfl, b15⟩
  have HB16 := hide (HB12.out.trans (b15.mono HB12.out.size))
  replace X := X.below b15
  replace S := S.below b15
  clear hc13 b15 HB12
  have hpk := pick_in (8 * (n : Int) + 1) (by omega) (by omega) x w14
  have hw8 : IntKind.i64.wrap (8 * ((n : Int) + 4)) = 8 * ((n : Int) + 4) := by rw [IntKind.wrap_i64]; omega
  have hw9 : IntKind.i64.wrap (8 * ((n : Int) + 4) - 31) = 8 * (n : Int) + 1 := by rw [IntKind.wrap_i64]; omega
  go_wp2_with fail
  refine hpk.mono ?_
  rintro e wp ⟨F, hF, rfl, hwp⟩
  obtain rfl := hwp
  clear hpk hw8 hw9
  have HS := hide S
  have HB := hide HB16.out
  have HLO := hide hlo
  have HR := hide (sealed_start HO.out (n + 4) F m)
  clear S HB16 hlo X hss
  go_wp2
  go_loopw [9] (fun i wr => ∃ (k : Nat) (ts : List Int), k ≤ 32 ∧ i = .int .i64 k ∧ Hid (Byt w2.heap.size wr (.slice s1 (n + 4) cs) ts) ∧ Hid (cReg cT 4294967295 ts = 3736805603 ^^^ cSn (8 * (n + 4) - F) (m % 2 ^ k)) ∧ Hid (Below w.heap.size w wr)) (fun i _ => 32 - (intOf i).toNat)
  case atStart => exact ⟨0, _, Nat.zero_le _, rfl, HS, HR, HB⟩
  case round =>
    obtain ⟨k, ts, hk, rfl, HS, HR, HB⟩ := hrel
    by_cases hk32 : k < 32
    · have hki : (k : Int) < 32 := by omega
      by_cases hb : m / 2 ^ k % 2 = 1
      · have hbi : (((m : Int) / 2 ^ k).tmod 2 == 1) = true := by rw [bit_tmod, hb]; rfl
        obtain ⟨K, hK⟩ : ∃ K, F + k = K := ⟨_, rfl⟩
        have hKw : IntKind.i64.wrap ((F : Int) + (k : Int)) = (K : Int) := by rw [IntKind.wrap_i64]; omega
        obtain ⟨j, hj⟩ : ∃ j, K / 8 = j := ⟨_, rfl⟩
        obtain ⟨q, hq⟩ : ∃ q, K % 8 = q := ⟨_, rfl⟩
        have hjn : j < n + 4 := by omega
        have hq8 : q < 8 := by omega
        have hKj : (K : Int) / 8 = (j : Int) := by omega
        have hKq : (K : Int) % 8 = (q : Int) := by omega
        obtain ⟨p, o, rfl, hp, _⟩ := HS.out.row (by omega)
        obtain ⟨c1, f1⟩ := HS.out.cell hjn
        have ho := HS.out.words.getD j
        have hbit := oct_bit hq8
        have hbx := bits_bx ho hbit
        have HS1 := hide (HS.out.set (k := j) (by have := HS.out.len.1; omega) (bx_oct ho hbit))
        have HR1 := hide (turn_one HS.out.words HS.out.len.1.symm (show 8 * j + q = F + k by omega) hq8 hjn hb HR.out)
        have HB1 := hide ((HB.out.setCell (p := ⟨p, o + j, none⟩) (Nat.le_trans HLO.out hp) (.int .u8 (bx (ts[j]?.getD 0) (2 ^ q)))).drew)
        have hji : (j : Int) < (n : Int) + 4 := by omega
        generalize ts[j]?.getD 0 = z at *
        obtain ⟨v, hv⟩ : ∃ v, bx z (2 ^ q) = v := ⟨_, rfl⟩
        rw [hv] at hbx HS1 HR1 HB1
        clear hv hb hj hq hK ho hp HS HR HB
        go_wp2_with fail
        go_region
        go_wp2
        exact ⟨⟨k + 1, _, by omega, by go_num, HS1, HR1, HB1⟩, by simp [intOf]; omega⟩
      · have hbi : (((m : Int) / 2 ^ k).tmod 2 == 1) = false := by rw [bit_tmod, beq_eq_false_iff_ne]; omega
        have HR1 := hide (turn_none hb HR.out)
        clear hb HR
        go_wp2
        exact ⟨⟨k + 1, ts, by omega, by go_num, HS, HR1, HB⟩, by simp [intOf]; omega⟩
    · obtain rfl : k = 32 := by omega
      have hop := open_turned HS.out.words HS.out.len.1.symm (turned_all HM0.out HM.out HR.out)
      have hcl := opened_yes HS.out (Byt.nil 0 wr) hsl 8 hop
      clear HS HR hop
      go_wp2_with fail
      refine hcl.mono ?_
      rintro e wz ⟨rfl, bz⟩
      have HZ := hide (HB.out.trans (bz.mono HB.out.size))
      clear hcl bz
      go_wp2
      go_ret
      exact ⟨rfl, HZ.out⟩
theorem csealed_any {a : Option Addr} {n c : Nat} {zs : List Int} {w : World} (X : Byt 0 w (.slice a n c) zs) (x : Int) (_ : -9223372036854775808 ≤ x ∧ x ≤ 9223372036854775807) (m : Int) (hm : 0 ≤ m ∧ m < 4294967296) :
    Calls Try.prog 6 #[.slice a n c, .int .i64 x, .int .u32 m] w fun e w' => e = .returned (.bool true) ∧ Below w.heap.size w w' := by
  by_cases h : n ≤ 2000
  · obtain ⟨k, rfl⟩ := Int.eq_ofNat_of_zero_le hm.1
    by_cases h0 : k = 0
    · subst h0
      exact csealed_none X x h
    · exact csealed_some X x k (by omega) h0 h
  · exact csealed_long a n c x m w (by omega)
end Go.Proofs.Ytenmfkdnfhgkaaa
