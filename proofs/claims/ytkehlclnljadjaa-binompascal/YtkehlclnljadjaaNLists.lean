/-
  Lists of numbers in memory: rows that grow by append, and are shifted by copy.
-/
import Derived.Test.YtkehlclnljadjaaJWiden
import Derived.Test.YtkehlclnljadjaaJNum
import Derived.RangeFuncBox
import Derived.Maps.AppendAt
import Derived.Laws.CopyRow
import Derived.Deep.RegionLaw
import Derived.Lib.AppendZeros
namespace Go.Proofs.Ytkehlclnljadjaa
open Go.RowKit

theorem small64 (x : Int) (h0 : 0 ≤ x) (h1 : x ≤ 1000000000) : IntKind.i64.wrap x = x := by rw [IntKind.wrap_i64]; omega
theorem seg_row_keep {lo : Nat} {W W' : World} {a : Option Addr} {n cap : Nat} {zs : List Int} (h : Seg lo W (.slice a n cap) zs) (hk : zs ≠ [] → ∀ b o, a = some ⟨b, o, none⟩ → lo ≤ b → b < W.heap.size → W'.heap[b]? = W.heap[b]?) (hs : W.heap.size ≤ W'.heap.size) : Seg lo W' (.slice a n cap) zs := by
  obtain ⟨hw, a', cap', e, h1, h3⟩ := h
  simp only [Value.slice.injEq] at e
  obtain ⟨rfl, e2, rfl⟩ := e
  refine ⟨hw, a, cap, by rw [e2], h1, fun hz => ?_⟩
  obtain ⟨b, off, e1, e2, e3, e4, e5⟩ := h3 hz
  have hb := hk hz b off e1 e2 e3
  exact ⟨b, off, e1, e2, by omega, fun j hj => (World.cell?_of_block (a := ⟨b, off + j, none⟩) hb).trans (e4 j hj), fun j hj => (World.frozen?_of_block (a := ⟨b, off + j, none⟩) hb).trans (e5 j hj)⟩
/-- A list of lists of words of the call's own. -/
def OwnN (lo : Nat) (W : World) (v : Value) (vs : List Value) : Prop := W.ownsRow lo 25 1 v vs.length vs
theorem infoNat : (Try.prog.info? 25).map (fun i => (i.zero, i.size, i.bytes)) = some (some (.slice none 0 0), 1, 24) := by kernel_rfl
theorem ownn_append {lo : Nat} {w : World} {v : Value} {vs : List Value} (h : OwnN lo w v vs) (a : Option Addr) (n c : Nat) (hl : vs.length ≤ 1000000) (hlo : lo ≤ w.heap.size) :
    ∃ b' cap' w', (Builtin.append_ #[29, 29] 29 #[v, .slice (some ⟨w.heap.size, 0, none⟩) 1 1]).run Try.prog (w.alloc (.cells #[.slice a n c] 25)) = .ok (.slice (some ⟨b', 0, none⟩) (vs.length + 1) cap') w' ∧ OwnN lo w' (.slice (some ⟨b', 0, none⟩) (vs.length + 1) cap') (vs ++ [.slice a n c]) ∧ (w.alloc (.cells #[.slice a n c] 25)).grownBy w' v.ownBlock ∧ (some b' = v.ownBlock ∨ b' = w.heap.size + 1) := by
  obtain ⟨i0, hi, hz0, hz1, hz2⟩ := info_parts infoNat
  obtain ⟨v', w', hr, hown, hg, _, hat⟩ := run_append_own_at (P := Try.prog) (w.alloc (.cells #[.slice a n c] 25)) lo 29 29 25 i0 (.slice none 0 0) 1 24 Try.underlying29 hi hz0 hz1 hz2 rfl (by decide)
    v vs.length vs (h.alloc _) ⟨w.heap.size, 0, none⟩ 1 1 [.slice a n c] rfl
    (fun j u hj => by
      obtain rfl : j = 0 := by
        cases j with
        | zero => rfl
        | succ j => simp at hj
      obtain rfl : Value.slice a n c = u := by simpa using hj
      rw [Addr.add_lit]
      exact cell_of_heap (World.alloc_heap_new w _) 0)
    (fun u hu => by obtain rfl : u = .slice a n c := by simpa using hu
                    rfl) (by unfold maxLen; omega) (by omega) (by simp; omega)
  have hlen : (vs ++ [Value.slice a n c]).length = vs.length + 1 := by simp
  obtain ⟨b', cap', e⟩ := ownsRow_succ hown
  subst e
  refine ⟨b', cap', w', hr, ?_, hg, ?_⟩
  rotate_left
  · rcases hat with h | h
    · exact Or.inl h
    · right
      simp only [Value.ownBlock, World.size_alloc, Option.some.injEq] at h
      exact h
  unfold OwnN
  rw [hlen]
  exact hown
theorem ownn_below {lo : Nat} {w w' : World} {v : Value} {vs : List Value} (h : OwnN lo w v vs) (hb : Below w.heap.size w w') : OwnN lo w' v vs := by
  obtain ⟨h1, h2⟩ := h
  refine ⟨h1, ?_⟩
  rcases h2 with ⟨e, h0⟩ | ⟨g, cap, cur, e, hg, hh, hc, hm, hs, ht⟩
  · exact .inl ⟨e, h0⟩
  · exact .inr ⟨g, cap, cur, e, hg, (hb.block g (Array.getElem?_eq_some_iff.1 hh).1).trans hh, hc, hm, hs, ht⟩

theorem ch_pw {n : Nat} (k m : Nat) (h : n < 64 * m) : ((ch n k : Nat) : Int) < pw m := by
  have h1 := ch_le n k
  have h2 : 2 ^ n < 2 ^ (64 * m) := Nat.pow_lt_pow_right (by omega) h
  have h3 : pw m = ((2 ^ (64 * m) : Nat) : Int) := by
    rw [Nat.pow_mul]
    simp [pw]
  rw [h3]
  omega
/-- A number in memory, of at most 16 digits, and not 0. -/
def NatAt (lo : Nat) (W : World) (v : Value) (x : Int) : Prop := ∃ b o c zs, v = .slice (some ⟨b, o, none⟩) zs.length c ∧ Seg lo W (.slice (some ⟨b, o, none⟩) zs.length c) zs ∧ Norm zs ∧ Hid (val zs = x) ∧ zs.length ≤ 16 ∧ zs ≠ [] ∧ lo ≤ b ∧ b < W.heap.size
theorem natat_of {lo : Nat} {W : World} {a : Option Addr} {c : Nat} {zs : List Int} {x : Int} (S : Seg lo W (.slice a zs.length c) zs) (N : Norm zs) (V : Hid (val zs = x)) (hx : 0 < x) (hp : x < pw 16) : NatAt lo W (.slice a zs.length c) x := by
  have hne : zs ≠ [] := by
    rintro rfl
    have := V.out
    rw [val_nil] at this
    omega
  obtain ⟨b, o, rfl, h1, h2⟩ := S.row (List.length_pos_iff.2 hne)
  refine ⟨b, o, c, zs, rfl, S, N, V, ?_, hne, h1, h2⟩
  have a := norm_val S.words N hne
  rw [V.out] at a
  rcases Nat.lt_or_ge 16 zs.length with h | h
  · have := pw_mono (m := 16) (n := zs.length - 1) (by omega)
    omega
  · exact h
theorem NatAt.block {lo : Nat} {W : World} {v : Value} {x : Int} (h : NatAt lo W v x) : ∃ b, v.ownBlock = some b ∧ lo ≤ b ∧ b < W.heap.size := by
  obtain ⟨b, o, c, zs, rfl, _, _, _, _, _, h1, h2⟩ := h
  exact ⟨b, rfl, h1, h2⟩
theorem NatAt.mono {lo lo' : Nat} {W : World} {v : Value} {x : Int} (h : NatAt lo W v x) (hl : lo' ≤ lo) : NatAt lo' W v x := by
  obtain ⟨b, o, c, zs, rfl, S, N, V, L, E, h1, h2⟩ := h
  exact ⟨b, o, c, zs, rfl, S.mono hl, N, V, L, E, by omega, h2⟩
theorem NatAt.keep {lo : Nat} {W W' : World} {v : Value} {x : Int} (h : NatAt lo W v x) (hk : ∀ b, v.ownBlock = some b → lo ≤ b → b < W.heap.size → W'.heap[b]? = W.heap[b]?) (hs : W.heap.size ≤ W'.heap.size) : NatAt lo W' v x := by
  obtain ⟨b, o, c, zs, rfl, S, N, V, L, E, h1, h2⟩ := h
  refine ⟨b, o, c, zs, rfl, seg_row_keep S (fun _ b' o' e h3 h4 => ?_) hs, N, V, L, E, h1, by omega⟩
  simp only [Option.some.injEq, Addr.mk.injEq] at e
  obtain ⟨rfl, _⟩ := e
  exact hk _ rfl h3 h4
theorem NatAt.below {lo : Nat} {W W' : World} {v : Value} {x : Int} (h : NatAt lo W v x) (hb : Below W.heap.size W W') : NatAt lo W' v x :=
  h.keep (fun b _ _ h2 => hb.block b h2) hb.size
/-- A list of numbers, each in memory of its own. -/
structure Nats (lo : Nat) (W : World) (own : Option Nat) (vs : List Value) (f : Nat → Int) : Prop where
  at_ : ∀ (i : Nat) v, vs[i]? = some v → NatAt lo W v (f i)
  off : ∀ (i : Nat) v, vs[i]? = some v → v.ownBlock ≠ own
  apart : ∀ (i j : Nat) u v, vs[i]? = some u → vs[j]? = some v → i < j → u.ownBlock ≠ v.ownBlock
theorem Nats.nil (lo : Nat) (W : World) (own : Option Nat) (f : Nat → Int) : Nats lo W own [] f := ⟨fun i v h => by simp at h, fun i v h => by simp at h, fun i j u v h => by simp at h⟩
theorem Nats.mono {lo lo' : Nat} {W : World} {own : Option Nat} {vs : List Value} {f : Nat → Int} (h : Nats lo W own vs f) (hl : lo' ≤ lo) : Nats lo' W own vs f :=
  ⟨fun i v hv => (h.at_ i v hv).mono hl, h.off, h.apart⟩
theorem Nats.keep {lo : Nat} {W W' : World} {own : Option Nat} {vs : List Value} {f : Nat → Int} (h : Nats lo W own vs f) (hk : ∀ b, lo ≤ b → b < W.heap.size → own ≠ some b → W'.heap[b]? = W.heap[b]?) (hs : W.heap.size ≤ W'.heap.size) : Nats lo W' own vs f :=
  ⟨fun i v hv => (h.at_ i v hv).keep (fun b e h1 h2 => hk b h1 h2 (fun e2 => h.off i v hv (by rw [e, e2]))) hs, h.off, h.apart⟩
theorem Nats.below {lo : Nat} {W W' : World} {own : Option Nat} {vs : List Value} {f : Nat → Int} (h : Nats lo W own vs f) (hb : Below W.heap.size W W') : Nats lo W' own vs f :=
  h.keep (fun b _ h2 _ => hb.block b h2) hb.size
theorem Nats.congr {lo : Nat} {W : World} {own : Option Nat} {vs : List Value} {f : Nat → Int} (h : Nats lo W own vs f) (g : Nat → Int) (hg : ∀ i, i < vs.length → f i = g i) : Nats lo W own vs g :=
  ⟨fun i v hv => by rw [← hg i (List.getElem?_eq_some_iff.1 hv).1]; exact h.at_ i v hv, h.off, h.apart⟩
theorem Nats.drop {lo : Nat} {W : World} {own : Option Nat} {vs : List Value} {f : Nat → Int} (h : Nats lo W own vs f) (d : Nat) (g : Nat → Int) (hg : ∀ i, i < vs.length - d → f (d + i) = g i) : Nats lo W own (vs.drop d) g :=
  ⟨fun i v hv => by
      have hi := (List.getElem?_eq_some_iff.1 hv).1
      rw [List.length_drop] at hi
      rw [List.getElem?_drop] at hv
      rw [← hg i hi]
      exact h.at_ _ _ hv,
    fun i v hv => by rw [List.getElem?_drop] at hv; exact h.off _ _ hv,
    fun i j u v hu hv hij => by
      rw [List.getElem?_drop] at hu hv
      exact h.apart _ _ _ _ hu hv (by omega)⟩
theorem get_snoc {vs : List Value} {v u : Value} {i : Nat} (h : (vs ++ [v])[i]? = some u) : vs[i]? = some u ∨ (i = vs.length ∧ u = v) := by
  rcases Nat.lt_or_ge i vs.length with hi | hi
  · rw [List.getElem?_append_left hi] at h; exact Or.inl h
  · rw [List.getElem?_append_right hi] at h
    have : i - vs.length = 0 := by
      have := (List.getElem?_eq_some_iff.1 h).1
      simp at this; omega
    rw [this] at h
    exact Or.inr ⟨by omega, by simpa using h.symm⟩
/-- One more. -/
theorem Nats.push {lo : Nat} {W V W' : World} {own own' : Option Nat} {vs : List Value} {f : Nat → Int} {v : Value} (h : Nats lo W own vs f) (hlo : lo ≤ W.heap.size) (hWV : Below W.heap.size W V) (hv : NatAt W.heap.size V v (f vs.length))
    (hown : ∀ g, own = some g → g < W.heap.size) (hk : ∀ b, lo ≤ b → b < V.heap.size → own ≠ some b → W'.heap[b]? = V.heap[b]?) (hs : V.heap.size ≤ W'.heap.size) (hp : own' = own ∨ ∃ g, own' = some g ∧ V.heap.size ≤ g) :
    Nats lo W' own' (vs ++ [v]) f := by
  have old : ∀ (i : Nat) u, vs[i]? = some u → ∃ b, u.ownBlock = some b ∧ lo ≤ b ∧ b < W.heap.size := fun i u hu => (h.at_ i u hu).block
  obtain ⟨n, en, hn1, hn2⟩ := hv.block
  refine ⟨fun i u hu => ?_, fun i u hu => ?_, fun i j u t hu ht hij => ?_⟩
  · rcases get_snoc hu with hu | ⟨rfl, rfl⟩
    · exact ((h.below hWV).keep hk hs).at_ i u hu
    · refine (hv.keep (fun b e h1 h2 => hk b (by omega) h2 (fun e2 => ?_)) hs).mono hlo
      have := hown b e2
      omega
  · rcases get_snoc hu with hu | ⟨rfl, rfl⟩
    · obtain ⟨b, e, h1, h2⟩ := old i u hu
      rcases hp with rfl | ⟨g, rfl, hg⟩
      · exact h.off i u hu
      · rw [e]
        intro e2
        injection e2 with e2
        have := hWV.size
        omega
    · rw [en]
      intro e2
      rcases hp with rfl | ⟨g, rfl, hg⟩
      · have := hown n e2.symm
        omega
      · injection e2 with e2
        omega
  · rcases get_snoc hu with hu1 | ⟨rfl, rfl⟩
    · rcases get_snoc ht with ht | ⟨rfl, rfl⟩
      · exact h.apart i j u t hu1 ht hij
      · obtain ⟨b, e, h1, h2⟩ := old i u hu1
        rw [e, en]
        intro e2
        injection e2 with e2
        omega
    · rcases get_snoc ht with ht | ⟨rfl, rfl⟩
      · have := (List.getElem?_eq_some_iff.1 ht).1
        omega
      · omega
theorem OwnN.lt {lo : Nat} {W : World} {v : Value} {vs : List Value} (h : OwnN lo W v vs) : ∀ k, v.ownBlock = some k → lo ≤ k ∧ k < W.heap.size := World.ownsRow.lt h
/-- append of a number that a call told. -/
theorem row_push {lo : Nat} {w W V : World} {pv : Value} {vs : List Value} {f : Nat → Int} {a : Option Addr} {c : Nat} {zs : List Int} (hO : OwnN lo W pv vs) (hN : Nats lo W pv.ownBlock vs f) (hB : Below lo w W) (hlo : lo ≤ W.heap.size) (hWV : Below W.heap.size W V)
    (S : Seg W.heap.size V (.slice a zs.length c) zs) (N : Norm zs) (hv : Hid (val zs = f vs.length)) (hx : 0 < f vs.length) (hp : f vs.length < pw 16) (hl : vs.length ≤ 1000000) :
    ∃ b' cap' W', (Builtin.append_ #[29, 29] 29 #[pv, .slice (some ⟨V.heap.size, 0, none⟩) 1 1]).run Try.prog (V.alloc (.cells #[.slice a zs.length c] 25)) = .ok (.slice (some ⟨b', 0, none⟩) (vs.length + 1) cap') W' ∧
      OwnN lo W' (.slice (some ⟨b', 0, none⟩) (vs.length + 1) cap') (vs ++ [.slice a zs.length c]) ∧ Nats lo W' (some b') (vs ++ [.slice a zs.length c]) f ∧ Below lo w W' ∧ W.heap.size ≤ W'.heap.size := by
  have hO' := ownn_below hO hWV
  have hlt := hO.lt
  obtain ⟨b', cap', W', hr, hO2, hg, hat⟩ := ownn_append hO' a zs.length c hl (Nat.le_trans hlo hWV.size)
  have hsz : V.heap.size ≤ W'.heap.size := by
    have := hg.size
    simp at this
    omega
  refine ⟨b', cap', W', hr, hO2, ?_, ?_, Nat.le_trans hWV.size hsz⟩
  · refine hN.push hlo hWV (natat_of S N hv hx hp) (fun g e => (hlt g e).2) (fun b h1 h2 h3 => ?_) hsz ?_
    · exact (hg.block b (by simp; omega) (fun e => h3 e.symm)).trans (Below.heap_alloc _ _ _ h2)
    · rcases hat with h | h
      · exact Or.inl h
      · exact Or.inr ⟨b', rfl, by omega⟩
  · exact ((hB.trans (hWV.mono hlo)).alloc (Nat.le_trans hlo hWV.size) _).grown hg (by simp; have := hWV.size; omega) (fun k hk => (hlt k hk).1)
/-- copy(row, row[d:]): what is behind goes to the front. -/
theorem row_shift {lo : Nat} {w W : World} {g cap : Nat} {vs : List Value} {f : Nat → Int} (n : Nat) (hn : vs.length = n) (hO : OwnN lo W (.slice (some ⟨g, 0, none⟩) n cap) vs) (hN : Nats lo W (some g) vs f) (hB : Below lo w W) (d m c : Nat) (hd : d + m = n) (h : Nat → Int) (hh : ∀ i, i < m → f (d + i) = h i) :
    ∃ W', (Builtin.copy_ #[29, 29] 3 #[.slice (some ⟨g, 0, none⟩) n cap, .slice (some ⟨g, d, none⟩) m c]).run Try.prog W = .ok (.int .i64 m) W' ∧
      OwnN lo W' (.slice (some ⟨g, 0, none⟩) m cap) (vs.drop d) ∧ Nats lo W' (some g) (vs.drop d) h ∧ Below lo w W' ∧ W'.heap.size = W.heap.size ∧ m ≤ cap := by
  subst hn
  obtain ⟨h1, h2⟩ := hO
  rcases h2 with ⟨e, _⟩ | ⟨g', cap', cur, e, hg, hh', hc, hm, hs, ht⟩
  · cases e
  simp only [Value.slice.injEq, Option.some.injEq, Addr.mk.injEq] at e
  obtain ⟨⟨rfl, _⟩, _, rfl⟩ := e
  have hlen : (vs.drop d).length = m := by rw [List.length_drop]; omega
  have hs' : cur.size = cap := by omega
  have ht' : cur.toList.take vs.length = vs := by rw [Nat.mul_one] at ht; exact ht
  have hcell : ∀ j v, vs[j]? = some v → cur[j]? = some v := fun j v hv => by
    have hj := (List.getElem?_eq_some_iff.1 hv).1
    rw [← Array.getElem?_toList, ← List.getElem?_take_of_lt hj, ht']
    exact hv
  have hrun := run_copy_row (P := Try.prog) W 29 29 3 25 g 0 vs.length cap ⟨g, d, none⟩ m c cur 25 (vs.drop d) Try.underlying29 (by kernel_rfl) hh'
    (by rw [hlen]; exact (Nat.min_eq_left (by omega)).symm) (fun j v hv => by
      rw [List.getElem?_drop] at hv
      rw [Addr.add_lit, cell_of_heap hh']
      exact hcell _ _ hv) (by omega) (fun v hv => by
      obtain ⟨i, hi⟩ := List.mem_iff_getElem?.1 (List.mem_of_mem_drop hv)
      obtain ⟨b, o, c', zs, rfl, _⟩ := hN.at_ i v hi
      rfl)
  have hgs := (Array.getElem?_eq_some_iff.1 hh').1
  refine ⟨_, hrun.trans (by rw [hlen]; rfl), ⟨by rw [hlen, Nat.mul_one], .inr ⟨g, cap, _, by rw [hlen], hg, setRow_heap W g cur _ _ (0, 0) hh', by rw [hlen]; omega, hm, ?_, ?_⟩⟩, ?_, ?_, by simp [World.setRow], by omega⟩
  · simp [hlen]; omega
  · simp only [List.take_zero, List.nil_append, Nat.zero_add, Nat.mul_one]
    exact List.take_left' rfl
  · exact (hN.drop d h (fun i hi => hh i (by omega))).keep (fun b _ _ hb => setRow_other W g b _ (fun e => hb (by rw [e]))) (by simp [World.setRow])
  · exact hB.trans ⟨rfl, rfl, rfl, by simp [World.setRow], fun k hk => setRow_other W g k _ (by omega)⟩
/-- An append as one step of a region that draws. -/
theorem step_append_run {ops : Array Oper} {o : Oper} {a : Act} {W : World} {K : Act → World → Prop} {Q : Exit → Act → World → Prop} {E : Prop} (hgd : o.guard = none) (s x : Operand) (t tn : TypeId)
    (ho : o.op = .call { callee := .builtin .append, args := #[s, x], argTypes := #[t, tn] }) (vs vx : Value) (hs : a.eval s = vs) (hx : a.eval x = vx) (v' : Value) (w' : World) (hr : (Builtin.append_ #[t, tn] o.type #[vs, vx]).run Try.prog W = .ok v' w')
    (hK : K (a.put o.dst v') w') : if Region.wanted o (yielded ops a.tmps) = true then Oper.wp Try.prog o a W K Q else E := by
  have hw : Region.wanted o (yielded ops a.tmps) = true := by simp [Region.wanted, hgd]
  rw [if_pos hw]
  exact Lib.wp_append_run W s x t tn ho _ _ hs hx _ _ hr hK
/-- A list of numbers as it stands, to be read. -/
structure Rowz (lo : Nat) (W : World) (g : Nat) (vs : List Value) : Prop where
  lo_ : lo ≤ g
  lt : g < W.heap.size
  cell : ∀ (j : Nat) v, vs[j]? = some v → W.cell? ⟨g, 0 + j, none⟩ = some v
theorem OwnN.rowz {lo : Nat} {W : World} {g n cap : Nat} {vs : List Value} (h : OwnN lo W (.slice (some ⟨g, 0, none⟩) n cap) vs) : Rowz lo W g vs ∧ vs.length = n ∧ n ≤ cap := by
  obtain ⟨h1, h2⟩ := h
  rcases h2 with ⟨e, _⟩ | ⟨g', cap', cur, e, hg, hh', hc, hm, hs, ht⟩
  · cases e
  simp only [Value.slice.injEq, Option.some.injEq, Addr.mk.injEq] at e
  obtain ⟨⟨rfl, _⟩, hl, rfl⟩ := e
  refine ⟨⟨hg, (Array.getElem?_eq_some_iff.1 hh').1, fun j v hv => ?_⟩, hl.symm, by omega⟩
  have hj := (List.getElem?_eq_some_iff.1 hv).1
  rw [cell_of_heap hh', Nat.zero_add, ← Array.getElem?_toList, ← List.getElem?_take_of_lt (i := j) (j := vs.length * 1) (by omega), ht]
  exact hv
theorem Rowz.keep {lo : Nat} {W W' : World} {g : Nat} {vs : List Value} (h : Rowz lo W g vs) (hk : W'.heap[g]? = W.heap[g]?) (hs : W.heap.size ≤ W'.heap.size) : Rowz lo W' g vs :=
  ⟨h.lo_, Nat.lt_of_lt_of_le h.lt hs, fun j v hv => (World.cell?_of_block (a := ⟨g, 0 + j, none⟩) hk).trans (h.cell j v hv)⟩
theorem Rowz.below {lo : Nat} {W W' : World} {g : Nat} {vs : List Value} (h : Rowz lo W g vs) (hb : Below W.heap.size W W') : Rowz lo W' g vs :=
  h.keep (hb.block g h.lt) hb.size
theorem Rowz.mono {lo lo' : Nat} {W : World} {g : Nat} {vs : List Value} (h : Rowz lo W g vs) (hl : lo' ≤ lo) : Rowz lo' W g vs := ⟨Nat.le_trans hl h.lo_, h.lt, h.cell⟩
end Go.Proofs.Ytkehlclnljadjaa
