/-
  Joined: Num Pas.
-/

namespace Go.Proofs.Ytkehlclnljadjaa
def val : List Int → Int
  | [] => 0
  | z :: zs => z + 18446744073709551616 * val zs
def Words (zs : List Int) : Prop := ∀ z ∈ zs, 0 ≤ z ∧ z < 18446744073709551616
def Norm (zs : List Int) : Prop := zs = [] ∨ zs[zs.length - 1]?.getD 0 ≠ 0
def pw (n : Nat) : Int := (18446744073709551616 : Int) ^ n
theorem pw_zero : pw 0 = 1 := rfl
theorem pw_succ (n : Nat) : pw (n + 1) = 18446744073709551616 * pw n := by unfold pw; rw [Int.pow_succ]; exact Int.mul_comm _ _
theorem pw_pos (n : Nat) : 0 < pw n := by
  induction n with
  | zero => decide
  | succ n ih => rw [pw_succ]; omega
theorem pw_add (m n : Nat) : pw (m + n) = pw m * pw n := by unfold pw; exact Int.pow_add _ _ _
theorem Words.nil : Words [] := fun _ h => by cases h
theorem Words.cons {z : Int} {zs : List Int} (h : 0 ≤ z ∧ z < 18446744073709551616) (hs : Words zs) : Words (z :: zs) := fun y hy => by
  rcases List.mem_cons.1 hy with rfl | hy
  · exact h
  · exact hs y hy
theorem Words.tail {z : Int} {zs : List Int} (h : Words (z :: zs)) : Words zs := fun y hy => h y (List.mem_cons_of_mem _ hy)
theorem Words.head {z : Int} {zs : List Int} (h : Words (z :: zs)) : 0 ≤ z ∧ z < 18446744073709551616 := h z List.mem_cons_self
theorem Words.append {xs ys : List Int} (hx : Words xs) (hy : Words ys) : Words (xs ++ ys) := fun z hz => (List.mem_append.1 hz).elim (hx z) (hy z)
theorem Words.take {zs : List Int} (h : Words zs) (k : Nat) : Words (zs.take k) := fun z hz => h z (List.mem_of_mem_take hz)
theorem Words.drop {zs : List Int} (h : Words zs) (k : Nat) : Words (zs.drop k) := fun z hz => h z (List.mem_of_mem_drop hz)
theorem Words.getD {zs : List Int} (h : Words zs) (k : Nat) : 0 ≤ zs[k]?.getD 0 ∧ zs[k]?.getD 0 < 18446744073709551616 := by
  by_cases hk : k < zs.length
  · rw [List.getElem?_eq_getElem hk]; exact h _ (List.getElem_mem hk)
  · rw [List.getElem?_eq_none (by omega)]; decide
theorem Words.zeros (n : Nat) : Words (List.replicate n 0) := fun z hz => by rw [(List.mem_replicate.1 hz).2]; decide
theorem Words.set {zs : List Int} (h : Words zs) (k : Nat) {x : Int} (hx : 0 ≤ x ∧ x < 18446744073709551616) : Words (zs.set k x) := fun z hz => by
  rcases List.mem_or_eq_of_mem_set hz with hz | rfl
  · exact h z hz
  · exact hx
theorem val_nil : val [] = 0 := rfl
theorem val_cons (z : Int) (zs : List Int) : val (z :: zs) = z + 18446744073709551616 * val zs := rfl
theorem val_nonneg {zs : List Int} (h : Words zs) : 0 ≤ val zs := by
  induction zs with
  | nil => exact Int.le_refl _
  | cons z zs ih => have := ih h.tail; have := h.head; rw [val_cons]; omega
theorem val_lt {zs : List Int} (h : Words zs) : val zs < pw zs.length := by
  induction zs with
  | nil => decide
  | cons z zs ih => have := ih h.tail; have := h.head; rw [val_cons, List.length_cons, pw_succ]; omega
theorem val_append (xs ys : List Int) : val (xs ++ ys) = val xs + pw xs.length * val ys := by
  induction xs with
  | nil => simp [val_nil, pw_zero]
  | cons x xs ih => rw [List.cons_append, val_cons, val_cons, ih, List.length_cons, pw_succ, Int.mul_add, Int.mul_assoc]; omega
theorem val_zeros (n : Nat) : val (List.replicate n 0) = 0 := by
  induction n with
  | zero => rfl
  | succ n ih => rw [List.replicate_succ, val_cons, ih]; rfl
theorem val_of_zeros {zs : List Int} (h : ∀ j, j < zs.length → zs[j]?.getD 0 = 0) : val zs = 0 := by
  induction zs with
  | nil => rfl
  | cons z zs ih =>
    have h0 := h 0 (by simp)
    have := ih (fun j hj => by have := h (j + 1) (by simpa using hj); simpa using this)
    rw [val_cons, this]; simp at h0; omega
theorem val_take {zs : List Int} {k : Nat} (h : ∀ j, k ≤ j → j < zs.length → zs[j]?.getD 0 = 0) : val (zs.take k) = val zs := by
  have e : val (zs.drop k) = 0 := val_of_zeros fun j hj => by
    have := h (k + j) (by omega) (by simp at hj; omega)
    rw [List.getElem?_drop]; exact this
  have : val zs = val (zs.take k ++ zs.drop k) := by rw [List.take_append_drop]
  rw [this, val_append, e]; omega
theorem val_take_succ (zs : List Int) (k : Nat) (h : k < zs.length) : val (zs.take (k + 1)) = val (zs.take k) + pw k * zs[k]?.getD 0 := by
  rw [List.take_succ_eq_append_getElem h, val_append, List.getElem?_eq_getElem h]
  simp [val_cons, val_nil, List.length_take, Nat.min_eq_left (Nat.le_of_lt h)]
theorem norm_nil : Norm [] := .inl rfl
theorem norm_val {zs : List Int} (hw : Words zs) (hn : Norm zs) (h : zs ≠ []) : pw (zs.length - 1) ≤ val zs := by
  rcases hn with e | hn
  · exact absurd e h
  have hl : zs.length - 1 < zs.length := by have := List.length_pos_iff.2 h; omega
  have e := val_take_succ zs (zs.length - 1) hl
  rw [show zs.length - 1 + 1 = zs.length by omega, List.take_length] at e
  have a := val_nonneg (hw.take (zs.length - 1))
  have b := hw.getD (zs.length - 1)
  have p := pw_pos (zs.length - 1)
  have : pw (zs.length - 1) * 1 ≤ pw (zs.length - 1) * zs[zs.length - 1]?.getD 0 := Int.mul_le_mul_of_nonneg_left (by omega) (by omega)
  omega
theorem norm_pos {zs : List Int} (hw : Words zs) (hn : Norm zs) (h : zs ≠ []) : 0 < val zs := by
  have := norm_val hw hn h; have := pw_pos (zs.length - 1); omega
theorem pw_mono {m n : Nat} (h : m ≤ n) : pw m ≤ pw n := by
  obtain ⟨k, rfl⟩ := Nat.le.dest h
  rw [pw_add]
  have := pw_pos k; have p := pw_pos m
  have : pw m * 1 ≤ pw m * pw k := Int.mul_le_mul_of_nonneg_left (by omega) (by omega)
  omega
theorem Norm.tail {z : Int} {zs : List Int} (h : Norm (z :: zs)) : Norm zs := by
  rcases h with e | h
  · cases e
  · by_cases e : zs = []
    · exact .inl e
    · right
      have : 0 < zs.length := List.length_pos_iff.2 e
      have e2 : (z :: zs).length - 1 = zs.length - 1 + 1 := by simp; omega
      rw [e2] at h; simpa using h
theorem norm_unique : ∀ {xs ys : List Int}, Words xs → Words ys → Norm xs → Norm ys → val xs = val ys → xs = ys
  | [], [], _, _, _, _, _ => rfl
  | [], y :: ys, _, hw, _, hn, e => by have := norm_pos hw hn (by simp); rw [val_nil] at e; omega
  | x :: xs, [], hw, _, hn, _, e => by have := norm_pos hw hn (by simp); rw [val_nil] at e; omega
  | x :: xs, y :: ys, hw, hw', hn, hn', e => by
    have a := hw.head; have b := hw'.head
    rw [val_cons, val_cons] at e
    have e1 : val xs = val ys := by omega
    have e2 : x = y := by omega
    rw [e2, norm_unique hw.tail hw'.tail hn.tail hn'.tail e1]
theorem norm_lt {xs ys : List Int} (hx : Words xs) (hy : Words ys) (hn : Norm ys) (h : xs.length < ys.length) : val xs < val ys := by
  have a := val_lt hx
  have b := norm_val hy hn (by intro e; rw [e] at h; simp at h)
  have c := pw_mono (m := xs.length) (n := ys.length - 1) (by omega)
  omega
theorem val_lt_at {xs ys : List Int} (hx : Words xs) (hy : Words ys) (hl : xs.length = ys.length) {k : Nat} (hk : k < xs.length) (h : xs[k]?.getD 0 < ys[k]?.getD 0) (hs : ∀ j, k < j → j < xs.length → xs[j]?.getD 0 = ys[j]?.getD 0) : val xs < val ys := by
  have e1 : val xs = val (xs.take (k + 1)) + pw (k + 1) * val (xs.drop (k + 1)) := by
    have := val_append (xs.take (k + 1)) (xs.drop (k + 1)); rw [List.take_append_drop, List.length_take, Nat.min_eq_left (by omega)] at this; exact this
  have e2 : val ys = val (ys.take (k + 1)) + pw (k + 1) * val (ys.drop (k + 1)) := by
    have := val_append (ys.take (k + 1)) (ys.drop (k + 1)); rw [List.take_append_drop, List.length_take, Nat.min_eq_left (by omega)] at this; exact this
  have e3 : xs.drop (k + 1) = ys.drop (k + 1) := by
    apply List.ext_getElem
    · simp [hl]
    · intro i h1 h2
      have := hs (k + 1 + i) (by omega) (by simp at h1; omega)
      simp at h1 h2
      rw [List.getElem?_eq_getElem (by omega), List.getElem?_eq_getElem (by omega)] at this
      simpa using this
  have a := val_take_succ xs k hk
  have b := val_take_succ ys k (by omega)
  have c := val_lt (hx.take k)
  have d := val_nonneg (hy.take k)
  rw [List.length_take, Nat.min_eq_left (by omega)] at c
  have p := pw_pos k
  have : pw k * (xs[k]?.getD 0 + 1) ≤ pw k * ys[k]?.getD 0 := Int.mul_le_mul_of_nonneg_left (by omega) (by omega)
  rw [Int.mul_add] at this
  rw [e1, e2, e3, a, b]; omega
theorem val_set {ss : List Int} {k : Nat} (h : k < ss.length) (x : Int) : val (ss.set k x) = val ss + pw k * (x - ss[k]?.getD 0) := by
  induction ss generalizing k with
  | nil => simp at h
  | cons s ss ih =>
    cases k with
    | zero => simp [val_cons, pw_zero]; omega
    | succ k =>
      have := ih (k := k) (by simpa using h)
      rw [List.set_cons_succ, val_cons, val_cons, this, pw_succ, List.getElem?_cons_succ, Int.mul_add, Int.mul_assoc]; omega
theorem val_drop (ys : List Int) (k : Nat) : val (ys.drop k) = ys[k]?.getD 0 + 18446744073709551616 * val (ys.drop (k + 1)) := by
  by_cases h : k < ys.length
  · rw [List.drop_eq_getElem_cons h, val_cons, List.getElem?_eq_getElem h]; rfl
  · rw [List.drop_eq_nil_of_le (by omega), List.drop_eq_nil_of_le (by omega), List.getElem?_eq_none (by omega)]; rfl
theorem add_step {ss ys : List Int} {k : Nat} {c t : Int} (h : k < ss.length) (e : val ss + pw k * (c + val (ys.drop k)) = t) :
    val (ss.set k ((ss[k]?.getD 0 + ys[k]?.getD 0 + c) % 18446744073709551616)) + pw (k + 1) * ((ss[k]?.getD 0 + ys[k]?.getD 0 + c) / 18446744073709551616 + val (ys.drop (k + 1))) = t := by
  have hs := val_set h ((ss[k]?.getD 0 + ys[k]?.getD 0 + c) % 18446744073709551616)
  rw [val_drop ys k] at e
  rw [hs, ← e, pw_succ]
  generalize ss[k]?.getD 0 = s
  generalize ys[k]?.getD 0 = y
  generalize val (ys.drop (k + 1)) = v
  rw [Int.add_assoc, Int.mul_comm 18446744073709551616 (pw k), Int.mul_assoc, ← Int.mul_add]
  congr 2
  omega
theorem sub_step {ss ys : List Int} {k : Nat} {c t : Int} (h : k < ss.length) (hs : 0 ≤ ss[k]?.getD 0 ∧ ss[k]?.getD 0 < 18446744073709551616) (hy : 0 ≤ ys[k]?.getD 0 ∧ ys[k]?.getD 0 < 18446744073709551616) (hc : 0 ≤ c ∧ c ≤ 1) (e : val ss - pw k * (c + val (ys.drop k)) = t) :
    val (ss.set k ((ss[k]?.getD 0 - ys[k]?.getD 0 - c) % 18446744073709551616)) - pw (k + 1) * ((if ss[k]?.getD 0 < ys[k]?.getD 0 + c then 1 else 0) + val (ys.drop (k + 1))) = t := by
  have hs' := val_set h ((ss[k]?.getD 0 - ys[k]?.getD 0 - c) % 18446744073709551616)
  rw [val_drop ys k] at e
  rw [hs', ← e, pw_succ]
  generalize ss[k]?.getD 0 = s at *
  generalize ys[k]?.getD 0 = y at *
  generalize val (ys.drop (k + 1)) = v
  obtain ⟨I, hI⟩ : ∃ I : Int, (if s < y + c then 1 else 0) = I := ⟨_, rfl⟩
  have key : ((s - y - c) % 18446744073709551616 - s) - 18446744073709551616 * (I + v) = -(c + (y + 18446744073709551616 * v)) := by rw [← hI]; split <;> omega
  rw [hI]
  have m : pw k * (((s - y - c) % 18446744073709551616 - s) - 18446744073709551616 * (I + v)) = pw k * ((s - y - c) % 18446744073709551616 - s) - 18446744073709551616 * pw k * (I + v) := by
    rw [Int.mul_sub, ← Int.mul_assoc, Int.mul_comm (pw k) 18446744073709551616]
  rw [key, Int.mul_neg] at m
  omega
theorem add_room {xs ys ss : List Int} {n m k : Nat} {c : Int} (hx : Words xs) (hy : Words ys) (hs : Words ss) (hn : xs.length = n) (hm : ys.length = m) (hmn : m ≤ n) (hk : k ≤ n + 1) (hc : 0 ≤ c) (h : k < m ∨ c ≠ 0)
    (e : val ss + pw k * (c + val (ys.drop k)) = val xs + val ys) : k ≤ n := by
  rcases Nat.lt_or_ge k (n + 1) with h1 | h1
  · omega
  · exfalso
    obtain rfl : k = n + 1 := by omega
    have a := val_lt hx; have b := val_lt hy; have d := val_nonneg hs
    rw [hn] at a; rw [hm] at b
    have p := pw_mono hmn
    have q := pw_pos n
    rw [List.drop_eq_nil_of_le (by omega), val_nil, pw_succ] at e
    have : 18446744073709551616 * pw n * 1 ≤ 18446744073709551616 * pw n * (c + 0) := Int.mul_le_mul_of_nonneg_left (by omega) (by omega)
    omega
def ch : Nat → Nat → Nat
  | _, 0 => 1
  | 0, _ + 1 => 0
  | n + 1, k + 1 => ch n k + ch n (k + 1)
def fac : Nat → Nat
  | 0 => 1
  | n + 1 => (n + 1) * fac n
theorem ch_zero (n : Nat) : ch n 0 = 1 := by cases n <;> rfl
theorem ch_succ (n k : Nat) : ch (n + 1) (k + 1) = ch n k + ch n (k + 1) := rfl
theorem ch_over : ∀ {n k : Nat}, n < k → ch n k = 0
  | 0, 0, h => absurd h (by omega)
  | 0, k + 1, _ => rfl
  | n + 1, 0, h => absurd h (by omega)
  | n + 1, k + 1, h => by rw [ch_succ, ch_over (n := n) (k := k) (by omega), ch_over (n := n) (k := k + 1) (by omega)]
theorem ch_self : ∀ n : Nat, ch n n = 1
  | 0 => rfl
  | n + 1 => by rw [ch_succ, ch_self n, ch_over (n := n) (k := n + 1) (by omega)]
theorem ch_absorb : ∀ n k : Nat, (k + 1) * ch (n + 1) (k + 1) = (n + 1) * ch n k
  | 0, 0 => rfl
  | 0, k + 1 => by rw [ch_over (by omega), ch_over (by omega)]; rfl
  | n + 1, 0 => by
    have h := ch_absorb n 0
    rw [ch_succ, ch_zero]
    rw [ch_zero] at h
    rw [Nat.mul_add, h]; omega
  | n + 1, k + 1 => by
    have h1 := ch_absorb n k
    have h2 := ch_absorb n (k + 1)
    have e1 := ch_succ n k
    rw [ch_succ (n + 1) (k + 1)]
    generalize ch (n + 1) (k + 1) = A at *
    generalize ch (n + 1) (k + 1 + 1) = B at *
    generalize ch n k = C at *
    generalize ch n (k + 1) = D at *
    subst e1
    grind
theorem ch_step {n k : Nat} (h : k ≤ n) : ch n (k + 1) * (k + 1) = ch n k * (n - k) := by
  have h1 := ch_absorb n k
  rw [ch_succ] at h1
  obtain ⟨m, rfl⟩ : ∃ m, n = k + m := ⟨n - k, by omega⟩
  rw [show k + m - k = m from by omega]
  generalize ch (k + m) k = A at *
  generalize ch (k + m) (k + 1) = B at *
  have : (k + 1) * (A + B) = (k + 1) * A + B * (k + 1) := by rw [Nat.mul_add, Nat.mul_comm _ B]
  have h2 : (k + m + 1) * A = (k + 1) * A + A * m := by grind
  omega
theorem fac_pos : ∀ n : Nat, 0 < fac n
  | 0 => by decide
  | n + 1 => Nat.mul_pos (by omega) (fac_pos n)
theorem ch_fac {n : Nat} : ∀ {k : Nat}, k ≤ n → ch n k * (fac k * fac (n - k)) = fac n
  | 0, _ => by rw [ch_zero, Nat.sub_zero]; show 1 * (1 * fac n) = fac n; omega
  | k + 1, h => by
    have ih := ch_fac (n := n) (k := k) (by omega)
    have st := ch_step (n := n) (k := k) (by omega)
    have e : fac (n - k) = (n - k) * fac (n - (k + 1)) := by
      obtain ⟨m, e⟩ : ∃ m, n - k = m + 1 := ⟨n - k - 1, by omega⟩
      rw [e, show n - (k + 1) = m from by omega]; rfl
    rw [e] at ih
    show ch n (k + 1) * ((k + 1) * fac k * fac (n - (k + 1))) = fac n
    rw [← ih]
    generalize fac (n - (k + 1)) = F
    generalize fac k = G
    generalize n - k = M at *
    generalize ch n (k + 1) = A at *
    generalize ch n k = B at *
    have : A * ((k + 1) * G * F) = A * (k + 1) * (G * F) := by grind
    rw [this, st]; grind
theorem ch_turn {n k : Nat} (h : k ≤ n) : ch n (n - k) = ch n k := by
  have h1 := ch_fac h
  have h2 := ch_fac (n := n) (k := n - k) (by omega)
  rw [show n - (n - k) = k from by omega, Nat.mul_comm (fac (n - k))] at h2
  exact Nat.eq_of_mul_eq_mul_right (Nat.mul_pos (fac_pos k) (fac_pos (n - k))) (h2.trans h1.symm)
theorem ch_le : ∀ n k : Nat, ch n k ≤ 2 ^ n
  | n, 0 => by rw [ch_zero]; exact Nat.one_le_two_pow
  | 0, k + 1 => by show 0 ≤ _; omega
  | n + 1, k + 1 => by
    have := ch_le n k
    have := ch_le n (k + 1)
    rw [ch_succ, Nat.pow_succ]; omega
theorem ch_pos : ∀ {n k : Nat}, k ≤ n → 0 < ch n k
  | n, 0, _ => by rw [ch_zero]; omega
  | n + 1, k + 1, h => by
    have := ch_pos (n := n) (k := k) (by omega)
    rw [ch_succ]; omega
def chs (n : Nat) : Nat → Nat
  | 0 => 0
  | j + 1 => chs n j + ch n j
theorem chs_succ (n : Nat) : ∀ j : Nat, chs (n + 1) (j + 1) = chs n j + chs n (j + 1)
  | 0 => by show 0 + ch (n + 1) 0 = 0 + (0 + ch n 0); rw [ch_zero, ch_zero]
  | j + 1 => by
    have ih := chs_succ n j
    show chs (n + 1) (j + 1) + ch (n + 1) (j + 1) = chs n j + ch n j + (chs n (j + 1) + ch n (j + 1))
    rw [ih, ch_succ]; omega
theorem chs_whole : ∀ n : Nat, chs n (n + 1) = 2 ^ n
  | 0 => rfl
  | n + 1 => by
    have ih := chs_whole n
    have : chs n (n + 1 + 1) = chs n (n + 1) + ch n (n + 1) := rfl
    rw [ch_over (n := n) (k := n + 1) (by omega)] at this
    rw [chs_succ, this, ih, Nat.pow_succ]; omega
def spn (a : Nat) : Nat → Nat
  | 0 => 1
  | m + 1 => spn a m * (a + m)
theorem spn_add (a m : Nat) : ∀ l : Nat, spn a (m + l) = spn a m * spn (a + m) l
  | 0 => by show spn a m = spn a m * 1; omega
  | l + 1 => by
    show spn a (m + l) * (a + (m + l)) = spn a m * (spn (a + m) l * (a + m + l))
    rw [spn_add a m l, Nat.mul_assoc, Nat.add_assoc]
theorem spn_front (a m : Nat) : spn a (m + 1) = a * spn (a + 1) m := by
  rw [Nat.add_comm m 1, spn_add]
  show 1 * (a + 0) * _ = _
  rw [Nat.one_mul, Nat.add_zero]
def fl (n : Nat) : Nat → Nat
  | 0 => 1
  | k + 1 => fl n k * (n - k)
theorem fl_spn {n : Nat} : ∀ {k : Nat}, k ≤ n → fl n k = spn (n - k + 1) k
  | 0, _ => rfl
  | k + 1, h => by
    show fl n k * (n - k) = _
    rw [spn_front, fl_spn (by omega), show n - (k + 1) + 1 = n - k from by omega, Nat.mul_comm]
def sml : List Nat → Nat
  | [] => 0
  | x :: l => x + sml l
def mlt : List Nat → Nat
  | [] => 1
  | x :: l => ch (sml (x :: l)) x * mlt l
def pfac : List Nat → Nat
  | [] => 1
  | x :: l => fac x * pfac l
theorem pfac_pos : ∀ l : List Nat, 0 < pfac l
  | [] => by decide
  | x :: l => Nat.mul_pos (fac_pos x) (pfac_pos l)
theorem mlt_pfac : ∀ l : List Nat, mlt l * pfac l = fac (sml l)
  | [] => rfl
  | x :: l => by
    have ih := mlt_pfac l
    have h := ch_fac (n := sml (x :: l)) (k := x) (by show x ≤ x + sml l; omega)
    rw [show sml (x :: l) - x = sml l from by show x + sml l - x = sml l; omega, ← ih] at h
    rw [← h]
    show ch (sml (x :: l)) x * mlt l * (fac x * pfac l) = _
    grind
theorem sml_append : ∀ l m : List Nat, sml (l ++ m) = sml l + sml m
  | [], m => by show sml m = 0 + sml m; omega
  | x :: l, m => by show x + sml (l ++ m) = x + sml l + sml m; rw [sml_append]; omega
theorem pfac_append : ∀ l m : List Nat, pfac (l ++ m) = pfac l * pfac m
  | [], m => by show pfac m = 1 * pfac m; omega
  | x :: l, m => by show fac x * pfac (l ++ m) = fac x * pfac l * pfac m; rw [pfac_append, Nat.mul_assoc]
theorem mlt_append (l m : List Nat) : mlt (l ++ m) = ch (sml l + sml m) (sml l) * (mlt l * mlt m) := by
  have h := mlt_pfac (l ++ m)
  have h1 := mlt_pfac l
  have h2 := mlt_pfac m
  have h3 := ch_fac (n := sml l + sml m) (k := sml l) (by omega)
  rw [show sml l + sml m - sml l = sml m from by omega] at h3
  rw [sml_append, pfac_append] at h
  refine Nat.eq_of_mul_eq_mul_right (Nat.mul_pos (pfac_pos l) (pfac_pos m)) (h.trans ?_)
  rw [← h3, ← h1, ← h2]
  generalize ch (mlt l * pfac l + _) _ = A
  grind
theorem sml_filter : ∀ l : List Nat, sml (l.filter (0 < ·)) = sml l
  | [] => rfl
  | 0 :: l => by show sml (l.filter (0 < ·)) = 0 + sml l; rw [sml_filter]; omega
  | (x + 1) :: l => by
    rw [List.filter_cons_of_pos (by simp)]
    show x + 1 + sml (l.filter (0 < ·)) = _
    rw [sml_filter]; rfl
theorem mlt_filter : ∀ l : List Nat, mlt (l.filter (0 < ·)) = mlt l
  | [] => rfl
  | 0 :: l => by
    show mlt (l.filter (0 < ·)) = ch (0 + sml l) 0 * mlt l
    rw [mlt_filter, ch_zero]; omega
  | (x + 1) :: l => by
    rw [List.filter_cons_of_pos (by simp)]
    show ch (x + 1 + sml (l.filter (0 < ·))) (x + 1) * mlt (l.filter (0 < ·)) = ch (x + 1 + sml l) (x + 1) * mlt l
    rw [sml_filter, mlt_filter]
theorem mlt_one (x : Nat) : mlt [x] = 1 := by
  show ch (x + 0) x * 1 = 1
  rw [Nat.add_zero, ch_self]
end Go.Proofs.Ytkehlclnljadjaa
