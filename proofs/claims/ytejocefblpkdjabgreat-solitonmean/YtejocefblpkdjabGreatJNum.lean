/-
  Joined: Num Knuth Frac.
-/

namespace Go.Proofs.YtejocefblpkdjabGreat
def val : List Int → Int
  | [] => 0
  | z :: zs => z + 18446744073709551616 * val zs
def Words (zs : List Int) : Prop := ∀ z ∈ zs, 0 ≤ z ∧ z < 18446744073709551616
def Norm (zs : List Int) : Prop := zs = [] ∨ zs[zs.length - 1]?.getD 0 ≠ 0
def pw (n : Nat) : Int := (18446744073709551616 : Int) ^ n
theorem pw_zero : pw 0 = 1 := rfl
theorem pw_succ (n : Nat) : pw (n + 1) = 18446744073709551616 * pw n := by unfold pw; rw [Int.pow_succ]; exact Int.mul_comm _ _
theorem pw_pos (n : Nat) : 0 < pw n := by
  induction n with
  | zero => decide
  | succ n ih => rw [pw_succ]; omega
theorem pw_add (m n : Nat) : pw (m + n) = pw m * pw n := by unfold pw; exact Int.pow_add _ _ _
theorem Words.nil : Words [] := fun _ h => by cases h
theorem Words.cons {z : Int} {zs : List Int} (h : 0 ≤ z ∧ z < 18446744073709551616) (hs : Words zs) : Words (z :: zs) := fun y hy => by
  rcases List.mem_cons.1 hy with rfl | hy
  · exact h
  · exact hs y hy
theorem Words.tail {z : Int} {zs : List Int} (h : Words (z :: zs)) : Words zs := fun y hy => h y (List.mem_cons_of_mem _ hy)
theorem Words.head {z : Int} {zs : List Int} (h : Words (z :: zs)) : 0 ≤ z ∧ z < 18446744073709551616 := h z List.mem_cons_self
theorem Words.append {xs ys : List Int} (hx : Words xs) (hy : Words ys) : Words (xs ++ ys) := fun z hz => (List.mem_append.1 hz).elim (hx z) (hy z)
theorem Words.take {zs : List Int} (h : Words zs) (k : Nat) : Words (zs.take k) := fun z hz => h z (List.mem_of_mem_take hz)
theorem Words.drop {zs : List Int} (h : Words zs) (k : Nat) : Words (zs.drop k) := fun z hz => h z (List.mem_of_mem_drop hz)
theorem Words.getD {zs : List Int} (h : Words zs) (k : Nat) : 0 ≤ zs[k]?.getD 0 ∧ zs[k]?.getD 0 < 18446744073709551616 := by
  by_cases hk : k < zs.length
  · rw [List.getElem?_eq_getElem hk]; exact h _ (List.getElem_mem hk)
  · rw [List.getElem?_eq_none (by omega)]; decide
theorem Words.zeros (n : Nat) : Words (List.replicate n 0) := fun z hz => by rw [(List.mem_replicate.1 hz).2]; decide
theorem Words.set {zs : List Int} (h : Words zs) (k : Nat) {x : Int} (hx : 0 ≤ x ∧ x < 18446744073709551616) : Words (zs.set k x) := fun z hz => by
  rcases List.mem_or_eq_of_mem_set hz with hz | rfl
  · exact h z hz
  · exact hx
theorem val_nil : val [] = 0 := rfl
theorem val_cons (z : Int) (zs : List Int) : val (z :: zs) = z + 18446744073709551616 * val zs := rfl
theorem val_nonneg {zs : List Int} (h : Words zs) : 0 ≤ val zs := by
  induction zs with
  | nil => exact Int.le_refl _
  | cons z zs ih => have := ih h.tail; have := h.head; rw [val_cons]; omega
theorem val_lt {zs : List Int} (h : Words zs) : val zs < pw zs.length := by
  induction zs with
  | nil => decide
  | cons z zs ih => have := ih h.tail; have := h.head; rw [val_cons, List.length_cons, pw_succ]; omega
theorem val_append (xs ys : List Int) : val (xs ++ ys) = val xs + pw xs.length * val ys := by
  induction xs with
  | nil => simp [val_nil, pw_zero]
  | cons x xs ih => rw [List.cons_append, val_cons, val_cons, ih, List.length_cons, pw_succ, Int.mul_add, Int.mul_assoc]; omega
theorem val_zeros (n : Nat) : val (List.replicate n 0) = 0 := by
  induction n with
  | zero => rfl
  | succ n ih => rw [List.replicate_succ, val_cons, ih]; rfl
theorem val_of_zeros {zs : List Int} (h : ∀ j, j < zs.length → zs[j]?.getD 0 = 0) : val zs = 0 := by
  induction zs with
  | nil => rfl
  | cons z zs ih =>
    have h0 := h 0 (by simp)
    have := ih (fun j hj => by have := h (j + 1) (by simpa using hj); simpa using this)
    rw [val_cons, this]; simp at h0; omega
theorem val_take {zs : List Int} {k : Nat} (h : ∀ j, k ≤ j → j < zs.length → zs[j]?.getD 0 = 0) : val (zs.take k) = val zs := by
  have e : val (zs.drop k) = 0 := val_of_zeros fun j hj => by
    have := h (k + j) (by omega) (by simp at hj; omega)
    rw [List.getElem?_drop]; exact this
  have : val zs = val (zs.take k ++ zs.drop k) := by rw [List.take_append_drop]
  rw [this, val_append, e]; omega
theorem val_take_succ (zs : List Int) (k : Nat) (h : k < zs.length) : val (zs.take (k + 1)) = val (zs.take k) + pw k * zs[k]?.getD 0 := by
  rw [List.take_succ_eq_append_getElem h, val_append, List.getElem?_eq_getElem h]
  simp [val_cons, val_nil, List.length_take, Nat.min_eq_left (Nat.le_of_lt h)]
theorem val_snoc (xs : List Int) (y : Int) : val (xs ++ [y]) = val xs + pw xs.length * y := by rw [val_append, val_cons, val_nil]; simp
theorem norm_nil : Norm [] := .inl rfl
theorem norm_val {zs : List Int} (hw : Words zs) (hn : Norm zs) (h : zs ≠ []) : pw (zs.length - 1) ≤ val zs := by
  rcases hn with e | hn
  · exact absurd e h
  have hl : zs.length - 1 < zs.length := by have := List.length_pos_iff.2 h; omega
  have e := val_take_succ zs (zs.length - 1) hl
  rw [show zs.length - 1 + 1 = zs.length by omega, List.take_length] at e
  have a := val_nonneg (hw.take (zs.length - 1))
  have b := hw.getD (zs.length - 1)
  have p := pw_pos (zs.length - 1)
  have : pw (zs.length - 1) * 1 ≤ pw (zs.length - 1) * zs[zs.length - 1]?.getD 0 := Int.mul_le_mul_of_nonneg_left (by omega) (by omega)
  omega
theorem norm_pos {zs : List Int} (hw : Words zs) (hn : Norm zs) (h : zs ≠ []) : 0 < val zs := by
  have := norm_val hw hn h; have := pw_pos (zs.length - 1); omega
theorem pw_mono {m n : Nat} (h : m ≤ n) : pw m ≤ pw n := by
  obtain ⟨k, rfl⟩ := Nat.le.dest h
  rw [pw_add]
  have := pw_pos k; have p := pw_pos m
  have : pw m * 1 ≤ pw m * pw k := Int.mul_le_mul_of_nonneg_left (by omega) (by omega)
  omega
theorem Norm.tail {z : Int} {zs : List Int} (h : Norm (z :: zs)) : Norm zs := by
  rcases h with e | h
  · cases e
  · by_cases e : zs = []
    · exact .inl e
    · right
      have : 0 < zs.length := List.length_pos_iff.2 e
      have e2 : (z :: zs).length - 1 = zs.length - 1 + 1 := by simp; omega
      rw [e2] at h; simpa using h
theorem norm_unique : ∀ {xs ys : List Int}, Words xs → Words ys → Norm xs → Norm ys → val xs = val ys → xs = ys
  | [], [], _, _, _, _, _ => rfl
  | [], y :: ys, _, hw, _, hn, e => by have := norm_pos hw hn (by simp); rw [val_nil] at e; omega
  | x :: xs, [], hw, _, hn, _, e => by have := norm_pos hw hn (by simp); rw [val_nil] at e; omega
  | x :: xs, y :: ys, hw, hw', hn, hn', e => by
    have a := hw.head; have b := hw'.head
    rw [val_cons, val_cons] at e
    have e1 : val xs = val ys := by omega
    have e2 : x = y := by omega
    rw [e2, norm_unique hw.tail hw'.tail hn.tail hn'.tail e1]
theorem words_unique : ∀ {xs ys : List Int}, Words xs → Words ys → xs.length = ys.length → val xs = val ys → xs = ys
  | [], [], _, _, _, _ => rfl
  | [], y :: ys, _, _, h, _ => by simp at h
  | x :: xs, [], _, _, h, _ => by simp at h
  | x :: xs, y :: ys, hw, hw', h, e => by
    have a := hw.head; have b := hw'.head
    rw [val_cons, val_cons] at e
    have e1 : val xs = val ys := by omega
    have e2 : x = y := by omega
    rw [e2, words_unique hw.tail hw'.tail (by simpa using h) e1]
theorem norm_lt {xs ys : List Int} (hx : Words xs) (hy : Words ys) (hn : Norm ys) (h : xs.length < ys.length) : val xs < val ys := by
  have a := val_lt hx
  have b := norm_val hy hn (by intro e; rw [e] at h; simp at h)
  have c := pw_mono (m := xs.length) (n := ys.length - 1) (by omega)
  omega
theorem val_lt_at {xs ys : List Int} (hx : Words xs) (hy : Words ys) (hl : xs.length = ys.length) {k : Nat} (hk : k < xs.length) (h : xs[k]?.getD 0 < ys[k]?.getD 0) (hs : ∀ j, k < j → j < xs.length → xs[j]?.getD 0 = ys[j]?.getD 0) : val xs < val ys := by
  have e1 : val xs = val (xs.take (k + 1)) + pw (k + 1) * val (xs.drop (k + 1)) := by
    have := val_append (xs.take (k + 1)) (xs.drop (k + 1)); rw [List.take_append_drop, List.length_take, Nat.min_eq_left (by omega)] at this; exact this
  have e2 : val ys = val (ys.take (k + 1)) + pw (k + 1) * val (ys.drop (k + 1)) := by
    have := val_append (ys.take (k + 1)) (ys.drop (k + 1)); rw [List.take_append_drop, List.length_take, Nat.min_eq_left (by omega)] at this; exact this
  have e3 : xs.drop (k + 1) = ys.drop (k + 1) := by
    apply List.ext_getElem
    · simp [hl]
    · intro i h1 h2
      have := hs (k + 1 + i) (by omega) (by simp at h1; omega)
      simp at h1 h2
      rw [List.getElem?_eq_getElem (by omega), List.getElem?_eq_getElem (by omega)] at this
      simpa using this
  have a := val_take_succ xs k hk
  have b := val_take_succ ys k (by omega)
  have c := val_lt (hx.take k)
  have d := val_nonneg (hy.take k)
  rw [List.length_take, Nat.min_eq_left (by omega)] at c
  have p := pw_pos k
  have : pw k * (xs[k]?.getD 0 + 1) ≤ pw k * ys[k]?.getD 0 := Int.mul_le_mul_of_nonneg_left (by omega) (by omega)
  rw [Int.mul_add] at this
  rw [e1, e2, e3, a, b]; omega
theorem val_set {ss : List Int} {k : Nat} (h : k < ss.length) (x : Int) : val (ss.set k x) = val ss + pw k * (x - ss[k]?.getD 0) := by
  induction ss generalizing k with
  | nil => simp at h
  | cons s ss ih =>
    cases k with
    | zero => simp [val_cons, pw_zero]; omega
    | succ k =>
      have := ih (k := k) (by simpa using h)
      rw [List.set_cons_succ, val_cons, val_cons, this, pw_succ, List.getElem?_cons_succ, Int.mul_add, Int.mul_assoc]; omega
theorem val_drop (ys : List Int) (k : Nat) : val (ys.drop k) = ys[k]?.getD 0 + 18446744073709551616 * val (ys.drop (k + 1)) := by
  by_cases h : k < ys.length
  · rw [List.drop_eq_getElem_cons h, val_cons, List.getElem?_eq_getElem h]; rfl
  · rw [List.drop_eq_nil_of_le (by omega), List.drop_eq_nil_of_le (by omega), List.getElem?_eq_none (by omega)]; rfl
theorem add_step {ss ys : List Int} {k : Nat} {c t : Int} (h : k < ss.length) (e : val ss + pw k * (c + val (ys.drop k)) = t) :
    val (ss.set k ((ss[k]?.getD 0 + ys[k]?.getD 0 + c) % 18446744073709551616)) + pw (k + 1) * ((ss[k]?.getD 0 + ys[k]?.getD 0 + c) / 18446744073709551616 + val (ys.drop (k + 1))) = t := by
  have hs := val_set h ((ss[k]?.getD 0 + ys[k]?.getD 0 + c) % 18446744073709551616)
  rw [val_drop ys k] at e
  rw [hs, ← e, pw_succ]
  generalize ss[k]?.getD 0 = s
  generalize ys[k]?.getD 0 = y
  generalize val (ys.drop (k + 1)) = v
  rw [Int.add_assoc, Int.mul_comm 18446744073709551616 (pw k), Int.mul_assoc, ← Int.mul_add]
  congr 2
  omega
theorem sub_step {ss ys : List Int} {k : Nat} {c t : Int} (h : k < ss.length) (hs : 0 ≤ ss[k]?.getD 0 ∧ ss[k]?.getD 0 < 18446744073709551616) (hy : 0 ≤ ys[k]?.getD 0 ∧ ys[k]?.getD 0 < 18446744073709551616) (hc : 0 ≤ c ∧ c ≤ 1) (e : val ss - pw k * (c + val (ys.drop k)) = t) :
    val (ss.set k ((ss[k]?.getD 0 - ys[k]?.getD 0 - c) % 18446744073709551616)) - pw (k + 1) * ((if ss[k]?.getD 0 < ys[k]?.getD 0 + c then 1 else 0) + val (ys.drop (k + 1))) = t := by
  have hs' := val_set h ((ss[k]?.getD 0 - ys[k]?.getD 0 - c) % 18446744073709551616)
  rw [val_drop ys k] at e
  rw [hs', ← e, pw_succ]
  generalize ss[k]?.getD 0 = s at *
  generalize ys[k]?.getD 0 = y at *
  generalize val (ys.drop (k + 1)) = v
  obtain ⟨I, hI⟩ : ∃ I : Int, (if s < y + c then 1 else 0) = I := ⟨_, rfl⟩
  have key : ((s - y - c) % 18446744073709551616 - s) - 18446744073709551616 * (I + v) = -(c + (y + 18446744073709551616 * v)) := by rw [← hI]; split <;> omega
  rw [hI]
  have m : pw k * (((s - y - c) % 18446744073709551616 - s) - 18446744073709551616 * (I + v)) = pw k * ((s - y - c) % 18446744073709551616 - s) - 18446744073709551616 * pw k * (I + v) := by
    rw [Int.mul_sub, ← Int.mul_assoc, Int.mul_comm (pw k) 18446744073709551616]
  rw [key, Int.mul_neg] at m
  omega
theorem add_room {xs ys ss : List Int} {n m k : Nat} {c : Int} (hx : Words xs) (hy : Words ys) (hs : Words ss) (hn : xs.length = n) (hm : ys.length = m) (hmn : m ≤ n) (hk : k ≤ n + 1) (hc : 0 ≤ c) (h : k < m ∨ c ≠ 0)
    (e : val ss + pw k * (c + val (ys.drop k)) = val xs + val ys) : k ≤ n := by
  rcases Nat.lt_or_ge k (n + 1) with h1 | h1
  · omega
  · exfalso
    obtain rfl : k = n + 1 := by omega
    have a := val_lt hx; have b := val_lt hy; have d := val_nonneg hs
    rw [hn] at a; rw [hm] at b
    have p := pw_mono hmn
    have q := pw_pos n
    rw [List.drop_eq_nil_of_le (by omega), val_nil, pw_succ] at e
    have : 18446744073709551616 * pw n * 1 ≤ 18446744073709551616 * pw n * (c + 0) := Int.mul_le_mul_of_nonneg_left (by omega) (by omega)
    omega
structure Guess (u v U3 V2 S ru rv u2 u1 u0 v1 v0 : Int) : Prop where
  eu : u = U3 * S + ru
  ev : v = V2 * S + rv
  eU : U3 = (u2 * 18446744073709551616 + u1) * 18446744073709551616 + u0
  eV : V2 = v1 * 18446744073709551616 + v0
  S0 : 0 < S
  ru0 : 0 ≤ ru
  ru1 : ru < S
  rv0 : 0 ≤ rv
  rv1 : rv < S
  hu2 : 0 ≤ u2
  hu1 : 0 ≤ u1
  hu1' : u1 < 18446744073709551616
  hu0 : 0 ≤ u0
  hu0' : u0 < 18446744073709551616
  hv1 : 9223372036854775808 ≤ v1
  hv1' : v1 < 18446744073709551616
  hv0 : 0 ≤ v0
  hv0' : v0 < 18446744073709551616
  fit : u < v * 18446744073709551616
theorem Guess.vpos {u v U3 V2 S ru rv u2 u1 u0 v1 v0 : Int} (h : Guess u v U3 V2 S ru rv u2 u1 u0 v1 v0) : 0 < v ∧ 18446744073709551616 ≤ V2 ∧ V2 * S ≤ v ∧ 18446744073709551616 * S ≤ v := by
  have := h.hv1; have := h.hv0; have := h.eV; have s := h.S0; have := h.rv0; have := h.ev
  have a : 18446744073709551616 ≤ V2 := by omega
  have b : 18446744073709551616 * S ≤ V2 * S := Int.mul_le_mul_of_nonneg_right a (by omega)
  omega
theorem Guess.unonneg {u v U3 V2 S ru rv u2 u1 u0 v1 v0 : Int} (h : Guess u v U3 V2 S ru rv u2 u1 u0 v1 v0) : 0 ≤ U3 ∧ 0 ≤ u := by
  have := h.hu2; have := h.hu1; have := h.hu0; have := h.eU; have := h.ru0; have := h.eu
  have a : 0 ≤ U3 := by omega
  have b := Int.mul_nonneg a (Int.le_of_lt h.S0)
  omega
theorem Guess.digit {u v U3 V2 S ru rv u2 u1 u0 v1 v0 : Int} (h : Guess u v U3 V2 S ru rv u2 u1 u0 v1 v0) : 0 ≤ u / v ∧ u / v ≤ 18446744073709551615 := by
  have p := h.vpos
  have a := Int.ediv_nonneg h.unonneg.2 (Int.le_of_lt p.1)
  have b := Int.ediv_lt_of_lt_mul (a := u) (b := 18446744073709551616) p.1 (by rw [Int.mul_comm]; exact h.fit)
  omega
theorem Guess.over {u v U3 V2 S ru rv u2 u1 u0 v1 v0 : Int} (h : Guess u v U3 V2 S ru rv u2 u1 u0 v1 v0) {q : Int} (hq : 0 ≤ q) (hgt : U3 < q * V2) : u / v < q := by
  have p := h.vpos
  refine Int.ediv_lt_of_lt_mul p.1 ?_
  have a : (U3 + 1) * S ≤ q * V2 * S := Int.mul_le_mul_of_nonneg_right (by omega) (Int.le_of_lt h.S0)
  have b := Int.mul_nonneg hq h.rv0
  have e : q * v = q * V2 * S + q * rv := by rw [h.ev, Int.mul_add, ← Int.mul_assoc]
  rw [e, h.eu]
  rw [Int.add_mul] at a
  have := h.ru1
  omega
theorem Guess.near {u v U3 V2 S ru rv u2 u1 u0 v1 v0 : Int} (h : Guess u v U3 V2 S ru rv u2 u1 u0 v1 v0) {q : Int} (hq1 : q ≤ 18446744073709551615) (hle : q * V2 ≤ U3) : q ≤ u / v + 1 := by
  have p := h.vpos
  have a : q * V2 * S ≤ U3 * S := Int.mul_le_mul_of_nonneg_right hle (Int.le_of_lt h.S0)
  have b : q * rv ≤ 18446744073709551615 * S := Int.mul_le_mul hq1 (Int.le_of_lt h.rv1) h.rv0 (by decide)
  have e : q * v = q * V2 * S + q * rv := by rw [h.ev, Int.mul_add, ← Int.mul_assoc]
  have c : (q - 1) * v ≤ u := by
    rw [Int.sub_mul, Int.one_mul, e, h.eu]
    have := h.ru0; have := h.S0
    omega
  have := Int.le_ediv_of_mul_le p.1 c
  omega
theorem Guess.start {u v U3 V2 S ru rv u2 u1 u0 v1 v0 : Int} (h : Guess u v U3 V2 S ru rv u2 u1 u0 v1 v0) : u / v ≤ (u2 * 18446744073709551616 + u1) / v1 := by
  have p := h.vpos
  have hv1 := h.hv1
  refine Int.le_ediv_of_mul_le (by omega) ?_
  refine Classical.byContradiction fun hc => ?_
  have d := h.digit
  have hgt : U3 < u / v * V2 := by
    have c := Int.mul_nonneg d.1 h.hv0
    have e : u / v * V2 = u / v * v1 * 18446744073709551616 + u / v * v0 := by rw [h.eV, Int.mul_add, ← Int.mul_assoc]
    rw [e, h.eU]
    have := h.hu0'
    omega
  have := h.over d.1 hgt
  omega
theorem Guess.test {u v U3 V2 S ru rv u2 u1 u0 v1 v0 : Int} (h : Guess u v U3 V2 S ru rv u2 u1 u0 v1 v0) {q r : Int} (er : r = u2 * 18446744073709551616 + u1 - q * v1) : (r * 18446744073709551616 + u0 < q * v0 → U3 < q * V2) ∧ (q * v0 ≤ r * 18446744073709551616 + u0 → q * V2 ≤ U3) := by
  have e : q * V2 = q * v1 * 18446744073709551616 + q * v0 := by rw [h.eV, Int.mul_add, ← Int.mul_assoc]
  rw [e, h.eU]
  omega
theorem Guess.plenty {u v U3 V2 S ru rv u2 u1 u0 v1 v0 : Int} (h : Guess u v U3 V2 S ru rv u2 u1 u0 v1 v0) {q r : Int} (hq1 : q ≤ 18446744073709551616) (hr : 18446744073709551616 ≤ r) : q * v0 ≤ r * 18446744073709551616 + u0 := by
  have : q * v0 ≤ 18446744073709551616 * 18446744073709551615 := Int.mul_le_mul hq1 (by have := h.hv0'; omega) h.hv0 (by decide)
  have := h.hu0
  omega
theorem quot_left {u v q : Int} (hv : 0 < v) (h1 : u / v ≤ q) (h2 : q ≤ u / v + 1) : (0 ≤ u - q * v → q = u / v ∧ u - q * v < v) ∧ (u - q * v < 0 → q = u / v + 1 ∧ 0 ≤ u - q * v + v ∧ u - q * v + v < v) := by
  have d := Int.emod_add_mul_ediv u v
  have m0 := Int.emod_nonneg u (show v ≠ 0 by omega)
  have m1 := Int.emod_lt_of_pos u hv
  rw [Int.mul_comm] at d
  rcases (show q = u / v ∨ q = u / v + 1 by omega) with e | e
  · rw [e]; exact ⟨fun _ => ⟨rfl, by omega⟩, fun h => by omega⟩
  · rw [e, Int.add_mul, Int.one_mul]; exact ⟨fun h => by omega, fun _ => ⟨rfl, by omega, by omega⟩⟩
theorem quot_moved {a b p : Int} (hp : 0 < p) : (a * p) / (b * p) = a / b ∧ (a * p) % (b * p) = a % b * p := by
  have e := Int.mul_ediv_mul_of_pos_left a b hp
  refine ⟨e, ?_⟩
  rw [Int.emod_def, e, Int.emod_def, Int.sub_mul]
  congr 1
  ac_rfl
def Low (u d : Int) : Prop := 0 < d ∧ Int.gcd u d = 1
theorem low_num {u d : Int} (h : Low u d) : (Rat.divInt u d).num = u ∧ ((Rat.divInt u d).den : Int) = d := by
  obtain ⟨h0, h1⟩ := h
  have hg : Int.gcd d u = 1 := by rw [Int.gcd_comm]; exact h1
  rw [Rat.num_divInt, Rat.den_divInt, hg, Int.sign_eq_one_of_pos h0, if_neg (by omega)]
  refine ⟨by simp, ?_⟩
  simp
  omega
theorem low_unique {u d v e : Int} (h : Low u d) (k : Low v e) (q : Rat.divInt u d = Rat.divInt v e) : u = v ∧ d = e := by
  obtain ⟨a, b⟩ := low_num h
  obtain ⟨a', b'⟩ := low_num k
  rw [q] at a b
  exact ⟨a.symm.trans a', b.symm.trans b'⟩
theorem gcd_pos_of {u d : Int} (hd : 0 < d) : 0 < (Int.gcd u d : Int) := by
  have : Int.gcd u d ≠ 0 := fun h => by
    have := (Int.gcd_eq_zero_iff.1 h).2
    omega
  omega
theorem low_div (u d : Int) (hd : 0 < d) : Low (u / (Int.gcd u d : Int)) (d / (Int.gcd u d : Int)) ∧ Rat.divInt (u / (Int.gcd u d : Int)) (d / (Int.gcd u d : Int)) = Rat.divInt u d := by
  have hg := gcd_pos_of (u := u) hd
  have du : (Int.gcd u d : Int) ∣ u := Int.gcd_dvd_left ..
  have dd : (Int.gcd u d : Int) ∣ d := Int.gcd_dvd_right ..
  have e1 := Int.ediv_mul_cancel du
  have e2 := Int.ediv_mul_cancel dd
  refine ⟨⟨Int.ediv_pos_of_pos_of_dvd hd (by omega) dd, ?_⟩, ?_⟩
  · show Nat.gcd (u / (Int.gcd u d : Int)).natAbs (d / (Int.gcd u d : Int)).natAbs = 1
    rw [Int.natAbs_ediv_of_dvd du, Int.natAbs_ediv_of_dvd dd, Int.natAbs_natCast]
    exact Nat.coprime_div_gcd_div_gcd (by have := hg; unfold Int.gcd at this; omega)
  · have := Rat.divInt_mul_right (n := u / (Int.gcd u d : Int)) (d := d / (Int.gcd u d : Int)) (a := (Int.gcd u d : Int)) (by omega)
    rw [e1, e2] at this
    exact this.symm
def cmpR (q r : Rat) : Int := if q < r then -1 else if q = r then 0 else 1
theorem divInt_le_iff {u d v e : Int} (hd : 0 < d) (he : 0 < e) : Rat.divInt u d ≤ Rat.divInt v e ↔ u * e ≤ v * d := by
  rw [Rat.le_iff_sub_nonneg, Rat.divInt_sub_divInt _ _ (by omega) (by omega), Rat.divInt_nonneg_iff_of_pos_right (Int.mul_pos he hd)]
  omega
theorem divInt_eq_iff {u d v e : Int} (hd : 0 < d) (he : 0 < e) : Rat.divInt u d = Rat.divInt v e ↔ u * e = v * d := Rat.divInt_eq_divInt_iff (by omega) (by omega)
theorem divInt_lt_iff {u d v e : Int} (hd : 0 < d) (he : 0 < e) : Rat.divInt u d < Rat.divInt v e ↔ u * e < v * d := by
  rw [← Rat.not_le, divInt_le_iff he hd]
  omega
theorem low_cross {u d v e : Int} (h : Low u d) (k : Low v e) :
    Low ((u / (Int.gcd u e : Int)) * (v / (Int.gcd v d : Int))) ((d / (Int.gcd v d : Int)) * (e / (Int.gcd u e : Int))) ∧
    Rat.divInt ((u / (Int.gcd u e : Int)) * (v / (Int.gcd v d : Int))) ((d / (Int.gcd v d : Int)) * (e / (Int.gcd u e : Int))) = Rat.divInt u d * Rat.divInt v e := by
  have g1 := gcd_pos_of (u := u) k.1
  have g2 := gcd_pos_of (u := v) h.1
  have a1 : (Int.gcd u e : Int) ∣ u := Int.gcd_dvd_left ..
  have a2 : (Int.gcd u e : Int) ∣ e := Int.gcd_dvd_right ..
  have b1 : (Int.gcd v d : Int) ∣ v := Int.gcd_dvd_left ..
  have b2 : (Int.gcd v d : Int) ∣ d := Int.gcd_dvd_right ..
  have e1 := Int.ediv_mul_cancel a1
  have e2 := Int.ediv_mul_cancel a2
  have f1 := Int.ediv_mul_cancel b1
  have f2 := Int.ediv_mul_cancel b2
  have c1 := (low_div u e k.1).1
  have c2 := (low_div v d h.1).1
  have pd : 0 < d / (Int.gcd v d : Int) := c2.1
  have pe : 0 < e / (Int.gcd u e : Int) := c1.1
  have dvd_abs : ∀ {x y : Int}, x ∣ y → x.natAbs ∣ y.natAbs := fun h => Int.natAbs_dvd_natAbs.2 h
  have w1 : u / (Int.gcd u e : Int) ∣ u := ⟨_, e1.symm⟩
  have w2 : v / (Int.gcd v d : Int) ∣ v := ⟨_, f1.symm⟩
  have w3 : d / (Int.gcd v d : Int) ∣ d := ⟨_, f2.symm⟩
  have w4 : e / (Int.gcd u e : Int) ∣ e := ⟨_, e2.symm⟩
  refine ⟨⟨Int.mul_pos pd pe, ?_⟩, ?_⟩
  · show Nat.gcd (_ * _ : Int).natAbs (_ * _ : Int).natAbs = 1
    rw [Int.natAbs_mul, Int.natAbs_mul]
    have q1 : Nat.Coprime (u / (Int.gcd u e : Int)).natAbs (d / (Int.gcd v d : Int)).natAbs :=
      Nat.Coprime.coprime_dvd_left (dvd_abs w1) (Nat.Coprime.coprime_dvd_right (dvd_abs w3) h.2)
    have q2 : Nat.Coprime (u / (Int.gcd u e : Int)).natAbs (e / (Int.gcd u e : Int)).natAbs := c1.2
    have q3 : Nat.Coprime (v / (Int.gcd v d : Int)).natAbs (d / (Int.gcd v d : Int)).natAbs := c2.2
    have q4 : Nat.Coprime (v / (Int.gcd v d : Int)).natAbs (e / (Int.gcd u e : Int)).natAbs :=
      Nat.Coprime.coprime_dvd_left (dvd_abs w2) (Nat.Coprime.coprime_dvd_right (dvd_abs w4) k.2)
    exact Nat.Coprime.mul_left (Nat.Coprime.mul_right q1 q2) (Nat.Coprime.mul_right q3 q4)
  · rw [Rat.divInt_mul_divInt, divInt_eq_iff (Int.mul_pos pd pe) (Int.mul_pos h.1 k.1)]
    generalize u / (Int.gcd u e : Int) = u' at *
    generalize v / (Int.gcd v d : Int) = v' at *
    generalize d / (Int.gcd v d : Int) = d' at *
    generalize e / (Int.gcd u e : Int) = e' at *
    generalize (Int.gcd u e : Int) = p at *
    generalize (Int.gcd v d : Int) = q at *
    rw [← e1, ← e2, ← f1, ← f2]
    simp only [Int.mul_comm, Int.mul_left_comm]
end Go.Proofs.YtejocefblpkdjabGreat
