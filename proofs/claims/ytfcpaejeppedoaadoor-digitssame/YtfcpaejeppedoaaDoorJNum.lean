/-
  Joined: Num Digs Knuth Frac.
-/

namespace Go.Proofs.YtfcpaejeppedoaaDoor
def val : List Int → Int
  | [] => 0
  | z :: zs => z + 18446744073709551616 * val zs
def Words (zs : List Int) : Prop := ∀ z ∈ zs, 0 ≤ z ∧ z < 18446744073709551616
def Norm (zs : List Int) : Prop := zs = [] ∨ zs[zs.length - 1]?.getD 0 ≠ 0
def pw (n : Nat) : Int := (18446744073709551616 : Int) ^ n
theorem pw_zero : pw 0 = 1 := rfl
theorem pw_succ (n : Nat) : pw (n + 1) = 18446744073709551616 * pw n := by unfold pw; rw [Int.pow_succ]; exact Int.mul_comm _ _
theorem pw_pos (n : Nat) : 0 < pw n := by
  induction n with
  | zero => decide
  | succ n ih => rw [pw_succ]; omega
theorem pw_add (m n : Nat) : pw (m + n) = pw m * pw n := by unfold pw; exact Int.pow_add _ _ _
theorem Words.nil : Words [] := fun _ h => by cases h
theorem Words.cons {z : Int} {zs : List Int} (h : 0 ≤ z ∧ z < 18446744073709551616) (hs : Words zs) : Words (z :: zs) := fun y hy => by
  rcases List.mem_cons.1 hy with rfl | hy
  · exact h
  · exact hs y hy
theorem Words.tail {z : Int} {zs : List Int} (h : Words (z :: zs)) : Words zs := fun y hy => h y (List.mem_cons_of_mem _ hy)
theorem Words.head {z : Int} {zs : List Int} (h : Words (z :: zs)) : 0 ≤ z ∧ z < 18446744073709551616 := h z List.mem_cons_self
theorem Words.append {xs ys : List Int} (hx : Words xs) (hy : Words ys) : Words (xs ++ ys) := fun z hz => (List.mem_append.1 hz).elim (hx z) (hy z)
theorem Words.take {zs : List Int} (h : Words zs) (k : Nat) : Words (zs.take k) := fun z hz => h z (List.mem_of_mem_take hz)
theorem Words.drop {zs : List Int} (h : Words zs) (k : Nat) : Words (zs.drop k) := fun z hz => h z (List.mem_of_mem_drop hz)
theorem Words.getD {zs : List Int} (h : Words zs) (k : Nat) : 0 ≤ zs[k]?.getD 0 ∧ zs[k]?.getD 0 < 18446744073709551616 := by
  by_cases hk : k < zs.length
  · rw [List.getElem?_eq_getElem hk]; exact h _ (List.getElem_mem hk)
  · rw [List.getElem?_eq_none (by omega)]; decide
theorem Words.zeros (n : Nat) : Words (List.replicate n 0) := fun z hz => by rw [(List.mem_replicate.1 hz).2]; decide
theorem Words.set {zs : List Int} (h : Words zs) (k : Nat) {x : Int} (hx : 0 ≤ x ∧ x < 18446744073709551616) : Words (zs.set k x) := fun z hz => by
  rcases List.mem_or_eq_of_mem_set hz with hz | rfl
  · exact h z hz
  · exact hx
theorem val_nil : val [] = 0 := rfl
theorem val_cons (z : Int) (zs : List Int) : val (z :: zs) = z + 18446744073709551616 * val zs := rfl
theorem val_nonneg {zs : List Int} (h : Words zs) : 0 ≤ val zs := by
  induction zs with
  | nil => exact Int.le_refl _
  | cons z zs ih => have := ih h.tail; have := h.head; rw [val_cons]; omega
theorem val_lt {zs : List Int} (h : Words zs) : val zs < pw zs.length := by
  induction zs with
  | nil => decide
  | cons z zs ih => have := ih h.tail; have := h.head; rw [val_cons, List.length_cons, pw_succ]; omega
theorem val_append (xs ys : List Int) : val (xs ++ ys) = val xs + pw xs.length * val ys := by
  induction xs with
  | nil => simp [val_nil, pw_zero]
  | cons x xs ih => rw [List.cons_append, val_cons, val_cons, ih, List.length_cons, pw_succ, Int.mul_add, Int.mul_assoc]; omega
theorem val_zeros (n : Nat) : val (List.replicate n 0) = 0 := by
  induction n with
  | zero => rfl
  | succ n ih => rw [List.replicate_succ, val_cons, ih]; rfl
theorem val_of_zeros {zs : List Int} (h : ∀ j, j < zs.length → zs[j]?.getD 0 = 0) : val zs = 0 := by
  induction zs with
  | nil => rfl
  | cons z zs ih =>
    have h0 := h 0 (by simp)
    have := ih (fun j hj => by have := h (j + 1) (by simpa using hj); simpa using this)
    rw [val_cons, this]; simp at h0; omega
theorem val_take {zs : List Int} {k : Nat} (h : ∀ j, k ≤ j → j < zs.length → zs[j]?.getD 0 = 0) : val (zs.take k) = val zs := by
  have e : val (zs.drop k) = 0 := val_of_zeros fun j hj => by
    have := h (k + j) (by omega) (by simp at hj; omega)
    rw [List.getElem?_drop]; exact this
  have : val zs = val (zs.take k ++ zs.drop k) := by rw [List.take_append_drop]
  rw [this, val_append, e]; omega
theorem val_take_succ (zs : List Int) (k : Nat) (h : k < zs.length) : val (zs.take (k + 1)) = val (zs.take k) + pw k * zs[k]?.getD 0 := by
  rw [List.take_succ_eq_append_getElem h, val_append, List.getElem?_eq_getElem h]
  simp [val_cons, val_nil, List.length_take, Nat.min_eq_left (Nat.le_of_lt h)]
theorem val_snoc (xs : List Int) (y : Int) : val (xs ++ [y]) = val xs + pw xs.length * y := by rw [val_append, val_cons, val_nil]; simp
theorem norm_nil : Norm [] := .inl rfl
theorem norm_val {zs : List Int} (hw : Words zs) (hn : Norm zs) (h : zs ≠ []) : pw (zs.length - 1) ≤ val zs := by
  rcases hn with e | hn
  · exact absurd e h
  have hl : zs.length - 1 < zs.length := by have := List.length_pos_iff.2 h; omega
  have e := val_take_succ zs (zs.length - 1) hl
  rw [show zs.length - 1 + 1 = zs.length by omega, List.take_length] at e
  have a := val_nonneg (hw.take (zs.length - 1))
  have b := hw.getD (zs.length - 1)
  have p := pw_pos (zs.length - 1)
  have : pw (zs.length - 1) * 1 ≤ pw (zs.length - 1) * zs[zs.length - 1]?.getD 0 := Int.mul_le_mul_of_nonneg_left (by omega) (by omega)
  omega
theorem norm_pos {zs : List Int} (hw : Words zs) (hn : Norm zs) (h : zs ≠ []) : 0 < val zs := by
  have := norm_val hw hn h; have := pw_pos (zs.length - 1); omega
theorem pw_mono {m n : Nat} (h : m ≤ n) : pw m ≤ pw n := by
  obtain ⟨k, rfl⟩ := Nat.le.dest h
  rw [pw_add]
  have := pw_pos k; have p := pw_pos m
  have : pw m * 1 ≤ pw m * pw k := Int.mul_le_mul_of_nonneg_left (by omega) (by omega)
  omega
theorem Norm.tail {z : Int} {zs : List Int} (h : Norm (z :: zs)) : Norm zs := by
  rcases h with e | h
  · cases e
  · by_cases e : zs = []
    · exact .inl e
    · right
      have : 0 < zs.length := List.length_pos_iff.2 e
      have e2 : (z :: zs).length - 1 = zs.length - 1 + 1 := by simp; omega
      rw [e2] at h; simpa using h
theorem norm_unique : ∀ {xs ys : List Int}, Words xs → Words ys → Norm xs → Norm ys → val xs = val ys → xs = ys
  | [], [], _, _, _, _, _ => rfl
  | [], y :: ys, _, hw, _, hn, e => by have := norm_pos hw hn (by simp); rw [val_nil] at e; omega
  | x :: xs, [], hw, _, hn, _, e => by have := norm_pos hw hn (by simp); rw [val_nil] at e; omega
  | x :: xs, y :: ys, hw, hw', hn, hn', e => by
    have a := hw.head; have b := hw'.head
    rw [val_cons, val_cons] at e
    have e1 : val xs = val ys := by omega
    have e2 : x = y := by omega
    rw [e2, norm_unique hw.tail hw'.tail hn.tail hn'.tail e1]
theorem words_unique : ∀ {xs ys : List Int}, Words xs → Words ys → xs.length = ys.length → val xs = val ys → xs = ys
  | [], [], _, _, _, _ => rfl
  | [], y :: ys, _, _, h, _ => by simp at h
  | x :: xs, [], _, _, h, _ => by simp at h
  | x :: xs, y :: ys, hw, hw', h, e => by
    have a := hw.head; have b := hw'.head
    rw [val_cons, val_cons] at e
    have e1 : val xs = val ys := by omega
    have e2 : x = y := by omega
    rw [e2, words_unique hw.tail hw'.tail (by simpa using h) e1]
theorem norm_lt {xs ys : List Int} (hx : Words xs) (hy : Words ys) (hn : Norm ys) (h : xs.length < ys.length) : val xs < val ys := by
  have a := val_lt hx
  have b := norm_val hy hn (by intro e; rw [e] at h; simp at h)
  have c := pw_mono (m := xs.length) (n := ys.length - 1) (by omega)
  omega
theorem val_lt_at {xs ys : List Int} (hx : Words xs) (hy : Words ys) (hl : xs.length = ys.length) {k : Nat} (hk : k < xs.length) (h : xs[k]?.getD 0 < ys[k]?.getD 0) (hs : ∀ j, k < j → j < xs.length → xs[j]?.getD 0 = ys[j]?.getD 0) : val xs < val ys := by
  have e1 : val xs = val (xs.take (k + 1)) + pw (k + 1) * val (xs.drop (k + 1)) := by
    have := val_append (xs.take (k + 1)) (xs.drop (k + 1)); rw [List.take_append_drop, List.length_take, Nat.min_eq_left (by omega)] at this; exact this
  have e2 : val ys = val (ys.take (k + 1)) + pw (k + 1) * val (ys.drop (k + 1)) := by
    have := val_append (ys.take (k + 1)) (ys.drop (k + 1)); rw [List.take_append_drop, List.length_take, Nat.min_eq_left (by omega)] at this; exact this
  have e3 : xs.drop (k + 1) = ys.drop (k + 1) := by
    apply List.ext_getElem
    · simp [hl]
    · intro i h1 h2
      have := hs (k + 1 + i) (by omega) (by simp at h1; omega)
      simp at h1 h2
      rw [List.getElem?_eq_getElem (by omega), List.getElem?_eq_getElem (by omega)] at this
      simpa using this
  have a := val_take_succ xs k hk
  have b := val_take_succ ys k (by omega)
  have c := val_lt (hx.take k)
  have d := val_nonneg (hy.take k)
  rw [List.length_take, Nat.min_eq_left (by omega)] at c
  have p := pw_pos k
  have : pw k * (xs[k]?.getD 0 + 1) ≤ pw k * ys[k]?.getD 0 := Int.mul_le_mul_of_nonneg_left (by omega) (by omega)
  rw [Int.mul_add] at this
  rw [e1, e2, e3, a, b]; omega
theorem val_set {ss : List Int} {k : Nat} (h : k < ss.length) (x : Int) : val (ss.set k x) = val ss + pw k * (x - ss[k]?.getD 0) := by
  induction ss generalizing k with
  | nil => simp at h
  | cons s ss ih =>
    cases k with
    | zero => simp [val_cons, pw_zero]; omega
    | succ k =>
      have := ih (k := k) (by simpa using h)
      rw [List.set_cons_succ, val_cons, val_cons, this, pw_succ, List.getElem?_cons_succ, Int.mul_add, Int.mul_assoc]; omega
theorem val_drop (ys : List Int) (k : Nat) : val (ys.drop k) = ys[k]?.getD 0 + 18446744073709551616 * val (ys.drop (k + 1)) := by
  by_cases h : k < ys.length
  · rw [List.drop_eq_getElem_cons h, val_cons, List.getElem?_eq_getElem h]; rfl
  · rw [List.drop_eq_nil_of_le (by omega), List.drop_eq_nil_of_le (by omega), List.getElem?_eq_none (by omega)]; rfl
def digB (B v : Nat) : List Nat := if _h : v = 0 ∨ B < 2 then [] else digB B (v / B) ++ [v % B]
termination_by v
decreasing_by exact Nat.div_lt_self (by omega) (by omega)
theorem digB_zero (B : Nat) : digB B 0 = [] := by rw [digB]; simp
theorem digB_pos {B v : Nat} (hB : 2 ≤ B) (hv : 0 < v) : digB B v = digB B (v / B) ++ [v % B] := by rw [digB, dif_neg (by omega)]
theorem digB_snoc {B v d : Nat} (hB : 2 ≤ B) (hd : d < B) (h : 0 < v * B + d) : digB B (v * B + d) = digB B v ++ [d] := by
  rw [digB_pos hB h]
  have h1 : (v * B + d) / B = v := by rw [Nat.mul_comm, Nat.mul_add_div (by omega), Nat.div_eq_of_lt hd]; omega
  have h2 : (v * B + d) % B = d := by rw [Nat.mul_comm, Nat.mul_add_mod, Nat.mod_eq_of_lt hd]
  rw [h1, h2]
def undig (B : Nat) (l : List Nat) : Nat := l.foldl (fun n d => n * B + d) 0
theorem undig_snoc (B : Nat) (l : List Nat) (d : Nat) : undig B (l ++ [d]) = undig B l * B + d := by simp [undig]
theorem undig_digB {B : Nat} (hB : 2 ≤ B) (v : Nat) : undig B (digB B v) = v := by
  induction v using Nat.strongRecOn with
  | ind v ih =>
    by_cases h : v = 0
    · subst h; rw [digB_zero]; rfl
    · rw [digB_pos hB (by omega), undig_snoc, ih (v / B) (Nat.div_lt_self (by omega) (by omega)), Nat.mul_comm]
      exact Nat.div_add_mod v B
theorem digB_lt {B : Nat} (hB : 2 ≤ B) (v : Nat) : ∀ d ∈ digB B v, d < B := by
  induction v using Nat.strongRecOn with
  | ind v ih =>
    by_cases h : v = 0
    · subst h; rw [digB_zero]; simp
    · rw [digB_pos hB (by omega)]
      intro d hd
      rcases List.mem_append.1 hd with hd | hd
      · exact ih (v / B) (Nat.div_lt_self (by omega) (by omega)) d hd
      · rw [List.mem_singleton.1 hd]; exact Nat.mod_lt _ (by omega)
theorem list_snoc {P : List Nat → Prop} (h0 : P []) (h1 : ∀ l d, P l → P (l ++ [d])) (l : List Nat) : P l := by
  have h : ∀ n (l : List Nat), l.length = n → P l := by
    intro n
    induction n with
    | zero => intro l hl; rw [List.length_eq_zero_iff.1 hl]; exact h0
    | succ n ih =>
      intro l hl
      have hne : l ≠ [] := by intro h; rw [h] at hl; simp at hl
      rw [← List.dropLast_concat_getLast hne]
      exact h1 _ _ (ih _ (by simp [hl]))
  exact h _ l rfl
theorem undig_pos {B : Nat} (hB : 2 ≤ B) (l : List Nat) : l.head? ≠ some 0 → l ≠ [] → 0 < undig B l := by
  refine list_snoc (P := fun l => l.head? ≠ some 0 → l ≠ [] → 0 < undig B l) ?_ ?_ l
  · intro _ h; exact absurd rfl h
  · intro l d ih hh _
    rw [undig_snoc]
    by_cases hl : l = []
    · subst hl
      have : d ≠ 0 := by intro e; subst e; exact hh rfl
      simp [undig]; omega
    · have hhd : l.head? ≠ some 0 := by
        intro e; apply hh
        cases l with
        | nil => exact absurd rfl hl
        | cons x xs => simpa using e
      have := Nat.mul_pos (ih hhd hl) (show 0 < B by omega)
      omega
theorem digB_undig {B : Nat} (hB : 2 ≤ B) (l : List Nat) : (∀ d ∈ l, d < B) → l.head? ≠ some 0 → digB B (undig B l) = l := by
  refine list_snoc (P := fun l => (∀ d ∈ l, d < B) → l.head? ≠ some 0 → digB B (undig B l) = l) ?_ ?_ l
  · intro _ _; exact digB_zero B
  · intro l d ih hd hh
    have hpos : 0 < undig B (l ++ [d]) := undig_pos hB _ hh (by simp)
    rw [undig_snoc] at hpos ⊢
    rw [digB_snoc hB (hd d (by simp)) hpos]
    congr 1
    refine ih (fun x hx => hd x (by simp [hx])) ?_
    intro e
    apply hh
    cases l with
    | nil => simp at e
    | cons x xs => simpa using e
theorem digB_head {B : Nat} (hB : 2 ≤ B) (v : Nat) : (digB B v).head? ≠ some 0 := by
  induction v using Nat.strongRecOn with
  | ind v ih =>
    by_cases h : v = 0
    · subst h; rw [digB_zero]; simp
    · rw [digB_pos hB (by omega)]
      by_cases h2 : v / B = 0
      · rw [h2, digB_zero]
        have : v < B := by
          rcases Nat.lt_or_ge v B with h | h
          · exact h
          · have := Nat.div_pos h (by omega); omega
        rw [Nat.mod_eq_of_lt this]
        simpa using h
      · have hne : digB B (v / B) ≠ [] := by rw [digB_pos hB (Nat.pos_of_ne_zero h2)]; simp
        have hi := ih (v / B) (Nat.div_lt_self (by omega) (by omega))
        cases hx : digB B (v / B) with
        | nil => exact absurd hx hne
        | cons x xs => rw [hx] at hi; simpa using hi
theorem digB_nil {B v : Nat} (hB : 2 ≤ B) : digB B v = [] ↔ v = 0 := by
  constructor
  · intro h
    by_cases h0 : v = 0
    · exact h0
    · rw [digB_pos hB (by omega)] at h; simp at h
  · intro h; rw [h, digB_zero]
theorem digB_len {B : Nat} (hB : 2 ≤ B) : ∀ (k v : Nat), (digB B v).length ≤ k ↔ v < B ^ k := by
  intro k
  induction k with
  | zero => intro v; rw [Nat.pow_zero, Nat.le_zero, List.length_eq_zero_iff, digB_nil hB]; omega
  | succ k ih =>
    intro v
    by_cases h : v = 0
    · subst h; rw [digB_zero]; simp; exact Nat.pow_pos (by omega)
    · rw [digB_pos hB (by omega), List.length_append, List.length_singleton, Nat.add_le_add_iff_right, ih, Nat.div_lt_iff_lt_mul (by omega), Nat.pow_succ]
def dec (v : Nat) : List Nat := if v = 0 then [48] else (digB 10 v).map (· + 48)
def isDig (b : Nat) : Bool := decide (48 ≤ b ∧ b ≤ 57)
def getAt (h0 : Bool) : Nat → Nat → List Nat → Except Nat Nat
  | _, n, [] => .ok n
  | i, n, b :: bs => if isDig b = false ∨ (i = 1 ∧ h0 = true) then .error i else getAt h0 (i + 1) (n * 10 + (b - 48)) bs
def getL (bs : List Nat) : Except Nat Nat := getAt (bs.head? == some 48) 0 0 bs
theorem getAt_ok (h0 : Bool) : ∀ (bs : List Nat) (i n m : Nat), getAt h0 i n bs = .ok m ↔ (∀ b ∈ bs, isDig b = true) ∧ (h0 = true → i ≤ 1 → bs.length ≤ 1 - i) ∧ m = (bs.map (· - 48)).foldl (fun n d => n * 10 + d) n := by
  intro bs
  induction bs with
  | nil => intro i n m; simp [getAt]; exact eq_comm
  | cons b bs ih =>
    intro i n m
    rw [getAt]
    by_cases hb : isDig b = true
    · by_cases h1 : i = 1 ∧ h0 = true
      · rw [if_pos (Or.inr h1)]
        constructor
        · intro h; cases h
        · rintro ⟨_, h2, _⟩
          have := h2 h1.2 (by omega)
          simp at this
          omega
      · rw [if_neg (by rw [hb]; rintro (h | h); cases h; exact h1 h), ih]
        have e : (List.map (fun x => x - 48) (b :: bs)).foldl (fun n d => n * 10 + d) n = (List.map (fun x => x - 48) bs).foldl (fun n d => n * 10 + d) (n * 10 + (b - 48)) := rfl
        rw [e]
        constructor
        · rintro ⟨g1, g2, g3⟩
          refine ⟨fun x hx => ?_, fun hh hi => ?_, g3⟩
          · rcases List.mem_cons.1 hx with rfl | hx
            · exact hb
            · exact g1 x hx
          · have hi0 : i = 0 := by
              rcases Nat.lt_or_ge i 1 with h | h
              · omega
              · exact absurd ⟨by omega, hh⟩ h1
            have := g2 hh (by omega)
            simp
            omega
        · rintro ⟨g1, g2, g3⟩
          refine ⟨fun x hx => g1 x (List.mem_cons_of_mem _ hx), fun hh hi => ?_, g3⟩
          have := g2 hh (by omega)
          simp at this
          omega
    · rw [if_pos (Or.inl (by simpa using hb))]
      constructor
      · intro h; cases h
      · rintro ⟨g1, _⟩; exact absurd (g1 b (List.mem_cons_self ..)) hb
theorem dec_ne_nil (v : Nat) : dec v ≠ [] := by
  unfold dec
  split
  · simp
  · intro h; exact absurd ((digB_nil (by omega)).1 (List.map_eq_nil_iff.1 h)) (by assumption)
theorem dec_dig (v : Nat) : ∀ b ∈ dec v, isDig b = true := by
  intro b hb
  unfold dec at hb
  split at hb
  · rw [List.mem_singleton.1 hb]; rfl
  · obtain ⟨d, hd, rfl⟩ := List.mem_map.1 hb
    have := digB_lt (by omega) v d hd
    exact decide_eq_true (by omega)
theorem get_dec (v : Nat) : getL (dec v) = .ok v := by
  unfold getL
  rw [getAt_ok]
  refine ⟨dec_dig v, fun hh _ => ?_, ?_⟩
  · unfold dec at hh ⊢
    by_cases h : v = 0
    · rw [if_pos h]; simp
    · rw [if_neg h] at hh
      have h3 := digB_head (B := 10) (by omega) v
      cases hx : digB 10 v with
      | nil => exact absurd ((digB_nil (by omega)).1 hx) h
      | cons x xs =>
        rw [hx] at hh h3
        simp at hh h3
        omega
  · unfold dec
    by_cases h : v = 0
    · rw [if_pos h, h]; rfl
    · rw [if_neg h, List.map_map]
      have e : (digB 10 v).map ((fun x => x - 48) ∘ fun x => x + 48) = digB 10 v := by
        conv => rhs; rw [← List.map_id (digB 10 v)]
        exact List.map_congr_left fun x _ => by simp
      rw [e]
      exact (undig_digB (by omega) v).symm
theorem dec_of_get {bs : List Nat} {v : Nat} (hne : bs ≠ []) (h : getL bs = .ok v) : bs = dec v := by
  unfold getL at h
  rw [getAt_ok] at h
  obtain ⟨h1, h2, h3⟩ := h
  have hback : (bs.map (· - 48)).map (· + 48) = bs := by
    rw [List.map_map]
    conv => rhs; rw [← List.map_id bs]
    refine List.map_congr_left fun x hx => ?_
    have := of_decide_eq_true (h1 x hx)
    simp
    omega
  by_cases h0 : bs.head? = some 48
  · have hl := h2 (by rw [h0]; rfl) (by omega)
    match bs, hne with
    | [b], _ =>
      simp at h0
      subst h0
      simp at h3
      subst h3
      rfl
    | b :: c :: r, _ => simp at hl
  · have hd : ∀ d ∈ bs.map (· - 48), d < 10 := by
      intro d hd
      obtain ⟨x, hx, rfl⟩ := List.mem_map.1 hd
      have := of_decide_eq_true (h1 x hx)
      omega
    have hh : (bs.map (· - 48)).head? ≠ some 0 := by
      cases bs with
      | nil => exact absurd rfl hne
      | cons b r =>
        have := of_decide_eq_true (h1 b (List.mem_cons_self ..))
        simp at h0 ⊢
        omega
    have e : v = undig 10 (bs.map (· - 48)) := h3
    have hpos : 0 < v := by rw [e]; exact undig_pos (by omega) _ hh (by simpa using hne)
    unfold dec
    rw [if_neg (by omega), e, digB_undig (by omega) _ hd hh, hback]
theorem dec_inj {v w : Nat} (h : dec v = dec w) : v = w := by
  have h1 := get_dec v
  rw [h, get_dec w] at h1
  cases h1
  rfl
def decD (v : Nat) : List Nat := if v = 0 then [0] else digB 10 v
structure Guess (u v U3 V2 S ru rv u2 u1 u0 v1 v0 : Int) : Prop where
  eu : u = U3 * S + ru
  ev : v = V2 * S + rv
  eU : U3 = (u2 * 18446744073709551616 + u1) * 18446744073709551616 + u0
  eV : V2 = v1 * 18446744073709551616 + v0
  S0 : 0 < S
  ru0 : 0 ≤ ru
  ru1 : ru < S
  rv0 : 0 ≤ rv
  rv1 : rv < S
  hu2 : 0 ≤ u2
  hu1 : 0 ≤ u1
  hu1' : u1 < 18446744073709551616
  hu0 : 0 ≤ u0
  hu0' : u0 < 18446744073709551616
  hv1 : 9223372036854775808 ≤ v1
  hv1' : v1 < 18446744073709551616
  hv0 : 0 ≤ v0
  hv0' : v0 < 18446744073709551616
  fit : u < v * 18446744073709551616
theorem Guess.vpos {u v U3 V2 S ru rv u2 u1 u0 v1 v0 : Int} (h : Guess u v U3 V2 S ru rv u2 u1 u0 v1 v0) : 0 < v ∧ 18446744073709551616 ≤ V2 ∧ V2 * S ≤ v ∧ 18446744073709551616 * S ≤ v := by
  have := h.hv1; have := h.hv0; have := h.eV; have s := h.S0; have := h.rv0; have := h.ev
  have a : 18446744073709551616 ≤ V2 := by omega
  have b : 18446744073709551616 * S ≤ V2 * S := Int.mul_le_mul_of_nonneg_right a (by omega)
  omega
theorem Guess.unonneg {u v U3 V2 S ru rv u2 u1 u0 v1 v0 : Int} (h : Guess u v U3 V2 S ru rv u2 u1 u0 v1 v0) : 0 ≤ U3 ∧ 0 ≤ u := by
  have := h.hu2; have := h.hu1; have := h.hu0; have := h.eU; have := h.ru0; have := h.eu
  have a : 0 ≤ U3 := by omega
  have b := Int.mul_nonneg a (Int.le_of_lt h.S0)
  omega
theorem Guess.digit {u v U3 V2 S ru rv u2 u1 u0 v1 v0 : Int} (h : Guess u v U3 V2 S ru rv u2 u1 u0 v1 v0) : 0 ≤ u / v ∧ u / v ≤ 18446744073709551615 := by
  have p := h.vpos
  have a := Int.ediv_nonneg h.unonneg.2 (Int.le_of_lt p.1)
  have b := Int.ediv_lt_of_lt_mul (a := u) (b := 18446744073709551616) p.1 (by rw [Int.mul_comm]; exact h.fit)
  omega
theorem Guess.over {u v U3 V2 S ru rv u2 u1 u0 v1 v0 : Int} (h : Guess u v U3 V2 S ru rv u2 u1 u0 v1 v0) {q : Int} (hq : 0 ≤ q) (hgt : U3 < q * V2) : u / v < q := by
  have p := h.vpos
  refine Int.ediv_lt_of_lt_mul p.1 ?_
  have a : (U3 + 1) * S ≤ q * V2 * S := Int.mul_le_mul_of_nonneg_right (by omega) (Int.le_of_lt h.S0)
  have b := Int.mul_nonneg hq h.rv0
  have e : q * v = q * V2 * S + q * rv := by rw [h.ev, Int.mul_add, ← Int.mul_assoc]
  rw [e, h.eu]
  rw [Int.add_mul] at a
  have := h.ru1
  omega
theorem Guess.near {u v U3 V2 S ru rv u2 u1 u0 v1 v0 : Int} (h : Guess u v U3 V2 S ru rv u2 u1 u0 v1 v0) {q : Int} (hq1 : q ≤ 18446744073709551615) (hle : q * V2 ≤ U3) : q ≤ u / v + 1 := by
  have p := h.vpos
  have a : q * V2 * S ≤ U3 * S := Int.mul_le_mul_of_nonneg_right hle (Int.le_of_lt h.S0)
  have b : q * rv ≤ 18446744073709551615 * S := Int.mul_le_mul hq1 (Int.le_of_lt h.rv1) h.rv0 (by decide)
  have e : q * v = q * V2 * S + q * rv := by rw [h.ev, Int.mul_add, ← Int.mul_assoc]
  have c : (q - 1) * v ≤ u := by
    rw [Int.sub_mul, Int.one_mul, e, h.eu]
    have := h.ru0; have := h.S0
    omega
  have := Int.le_ediv_of_mul_le p.1 c
  omega
theorem Guess.start {u v U3 V2 S ru rv u2 u1 u0 v1 v0 : Int} (h : Guess u v U3 V2 S ru rv u2 u1 u0 v1 v0) : u / v ≤ (u2 * 18446744073709551616 + u1) / v1 := by
  have p := h.vpos
  have hv1 := h.hv1
  refine Int.le_ediv_of_mul_le (by omega) ?_
  refine Classical.byContradiction fun hc => ?_
  have d := h.digit
  have hgt : U3 < u / v * V2 := by
    have c := Int.mul_nonneg d.1 h.hv0
    have e : u / v * V2 = u / v * v1 * 18446744073709551616 + u / v * v0 := by rw [h.eV, Int.mul_add, ← Int.mul_assoc]
    rw [e, h.eU]
    have := h.hu0'
    omega
  have := h.over d.1 hgt
  omega
theorem Guess.test {u v U3 V2 S ru rv u2 u1 u0 v1 v0 : Int} (h : Guess u v U3 V2 S ru rv u2 u1 u0 v1 v0) {q r : Int} (er : r = u2 * 18446744073709551616 + u1 - q * v1) : (r * 18446744073709551616 + u0 < q * v0 → U3 < q * V2) ∧ (q * v0 ≤ r * 18446744073709551616 + u0 → q * V2 ≤ U3) := by
  have e : q * V2 = q * v1 * 18446744073709551616 + q * v0 := by rw [h.eV, Int.mul_add, ← Int.mul_assoc]
  rw [e, h.eU]
  omega
theorem Guess.plenty {u v U3 V2 S ru rv u2 u1 u0 v1 v0 : Int} (h : Guess u v U3 V2 S ru rv u2 u1 u0 v1 v0) {q r : Int} (hq1 : q ≤ 18446744073709551616) (hr : 18446744073709551616 ≤ r) : q * v0 ≤ r * 18446744073709551616 + u0 := by
  have : q * v0 ≤ 18446744073709551616 * 18446744073709551615 := Int.mul_le_mul hq1 (by have := h.hv0'; omega) h.hv0 (by decide)
  have := h.hu0
  omega
theorem quot_left {u v q : Int} (hv : 0 < v) (h1 : u / v ≤ q) (h2 : q ≤ u / v + 1) : (0 ≤ u - q * v → q = u / v ∧ u - q * v < v) ∧ (u - q * v < 0 → q = u / v + 1 ∧ 0 ≤ u - q * v + v ∧ u - q * v + v < v) := by
  have d := Int.emod_add_mul_ediv u v
  have m0 := Int.emod_nonneg u (show v ≠ 0 by omega)
  have m1 := Int.emod_lt_of_pos u hv
  rw [Int.mul_comm] at d
  rcases (show q = u / v ∨ q = u / v + 1 by omega) with e | e
  · rw [e]; exact ⟨fun _ => ⟨rfl, by omega⟩, fun h => by omega⟩
  · rw [e, Int.add_mul, Int.one_mul]; exact ⟨fun h => by omega, fun _ => ⟨rfl, by omega, by omega⟩⟩
theorem quot_moved {a b p : Int} (hp : 0 < p) : (a * p) / (b * p) = a / b ∧ (a * p) % (b * p) = a % b * p := by
  have e := Int.mul_ediv_mul_of_pos_left a b hp
  refine ⟨e, ?_⟩
  rw [Int.emod_def, e, Int.emod_def, Int.sub_mul]
  congr 1
  ac_rfl
def Low (u d : Int) : Prop := 0 < d ∧ Int.gcd u d = 1
theorem low_num {u d : Int} (h : Low u d) : (Rat.divInt u d).num = u ∧ ((Rat.divInt u d).den : Int) = d := by
  obtain ⟨h0, h1⟩ := h
  have hg : Int.gcd d u = 1 := by rw [Int.gcd_comm]; exact h1
  rw [Rat.num_divInt, Rat.den_divInt, hg, Int.sign_eq_one_of_pos h0, if_neg (by omega)]
  refine ⟨by simp, ?_⟩
  simp
  omega
theorem low_unique {u d v e : Int} (h : Low u d) (k : Low v e) (q : Rat.divInt u d = Rat.divInt v e) : u = v ∧ d = e := by
  obtain ⟨a, b⟩ := low_num h
  obtain ⟨a', b'⟩ := low_num k
  rw [q] at a b
  exact ⟨a.symm.trans a', b.symm.trans b'⟩
theorem gcd_pos_of {u d : Int} (hd : 0 < d) : 0 < (Int.gcd u d : Int) := by
  have : Int.gcd u d ≠ 0 := fun h => by
    have := (Int.gcd_eq_zero_iff.1 h).2
    omega
  omega
theorem low_div (u d : Int) (hd : 0 < d) : Low (u / (Int.gcd u d : Int)) (d / (Int.gcd u d : Int)) ∧ Rat.divInt (u / (Int.gcd u d : Int)) (d / (Int.gcd u d : Int)) = Rat.divInt u d := by
  have hg := gcd_pos_of (u := u) hd
  have du : (Int.gcd u d : Int) ∣ u := Int.gcd_dvd_left ..
  have dd : (Int.gcd u d : Int) ∣ d := Int.gcd_dvd_right ..
  have e1 := Int.ediv_mul_cancel du
  have e2 := Int.ediv_mul_cancel dd
  refine ⟨⟨Int.ediv_pos_of_pos_of_dvd hd (by omega) dd, ?_⟩, ?_⟩
  · show Nat.gcd (u / (Int.gcd u d : Int)).natAbs (d / (Int.gcd u d : Int)).natAbs = 1
    rw [Int.natAbs_ediv_of_dvd du, Int.natAbs_ediv_of_dvd dd, Int.natAbs_natCast]
    exact Nat.coprime_div_gcd_div_gcd (by have := hg; unfold Int.gcd at this; omega)
  · have := Rat.divInt_mul_right (n := u / (Int.gcd u d : Int)) (d := d / (Int.gcd u d : Int)) (a := (Int.gcd u d : Int)) (by omega)
    rw [e1, e2] at this
    exact this.symm
def cmpR (q r : Rat) : Int := if q < r then -1 else if q = r then 0 else 1
end Go.Proofs.YtfcpaejeppedoaaDoor
