/-
  Natural numbers as lists of words, the lowest first: plain arithmetic on lists of integers; no program in sight.
-/
namespace Go.Proofs.Ytbebdeaeegcfkaa

/-- What a list of words comes to. -/
def val : List Int → Int
  | [] => 0
  | z :: zs => z + 18446744073709551616 * val zs
/-- All are words. -/
def Words (zs : List Int) : Prop := ∀ z ∈ zs, 0 ≤ z ∧ z < 18446744073709551616
/-- The highest word is not 0. -/
def Norm (zs : List Int) : Prop := zs = [] ∨ zs[zs.length - 1]?.getD 0 ≠ 0
/-- 2^64 to the power n. -/
def pw (n : Nat) : Int := (18446744073709551616 : Int) ^ n

theorem Words.nil : Words [] := fun _ h => by cases h
theorem Words.cons {z : Int} {zs : List Int} (h : 0 ≤ z ∧ z < 18446744073709551616) (hs : Words zs) : Words (z :: zs) := fun y hy => by
  rcases List.mem_cons.1 hy with rfl | hy
  · exact h
  · exact hs y hy
theorem Words.tail {z : Int} {zs : List Int} (h : Words (z :: zs)) : Words zs := fun y hy => h y (List.mem_cons_of_mem _ hy)
theorem Words.head {z : Int} {zs : List Int} (h : Words (z :: zs)) : 0 ≤ z ∧ z < 18446744073709551616 := h z List.mem_cons_self
theorem Words.append {xs ys : List Int} (hx : Words xs) (hy : Words ys) : Words (xs ++ ys) := fun z hz => (List.mem_append.1 hz).elim (hx z) (hy z)
theorem Words.take {zs : List Int} (h : Words zs) (k : Nat) : Words (zs.take k) := fun z hz => h z (List.mem_of_mem_take hz)
theorem Words.drop {zs : List Int} (h : Words zs) (k : Nat) : Words (zs.drop k) := fun z hz => h z (List.mem_of_mem_drop hz)
theorem Words.getD {zs : List Int} (h : Words zs) (k : Nat) : 0 ≤ zs[k]?.getD 0 ∧ zs[k]?.getD 0 < 18446744073709551616 := by
  by_cases hk : k < zs.length
  · rw [List.getElem?_eq_getElem hk]; exact h _ (List.getElem_mem hk)
  · rw [List.getElem?_eq_none (by omega)]; decide
theorem Words.set {zs : List Int} (h : Words zs) (k : Nat) {x : Int} (hx : 0 ≤ x ∧ x < 18446744073709551616) : Words (zs.set k x) := fun z hz => by
  rcases List.mem_or_eq_of_mem_set hz with hz | rfl
  · exact h z hz
  · exact hx

theorem norm_nil : Norm [] := .inl rfl
theorem Norm.tail {z : Int} {zs : List Int} (h : Norm (z :: zs)) : Norm zs := by
  rcases h with e | h
  · cases e
  · by_cases e : zs = []
    · exact .inl e
    · right
      have : 0 < zs.length := List.length_pos_iff.2 e
      have e2 : (z :: zs).length - 1 = zs.length - 1 + 1 := by simp; omega
      rw [e2] at h; simpa using h
end Go.Proofs.Ytbebdeaeegcfkaa
