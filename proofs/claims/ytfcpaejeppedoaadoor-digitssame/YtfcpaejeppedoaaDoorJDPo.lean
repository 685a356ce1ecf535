/-
  Joined: DPo DPl DPq DPr DPk DPs DPt DPu DPw DPx DKnown DSame.
-/
import Derived.Test.YtfcpaejeppedoaaDoorJDPm
import Derived.Test.YtfcpaejeppedoaaDoorJDPc
import Derived.Test.YtfcpaejeppedoaaDoorRoundHeld
import Derived.Test.YtfcpaejeppedoaaDoorJSigB
import Derived.Test.YtfcpaejeppedoaaDoorJEnds
import Derived.Test.YtfcpaejeppedoaaDoorKit
import Derived.Test.YtfcpaejeppedoaaDoorJRDiv
namespace Go.Proofs.YtfcpaejeppedoaaDoor
open Go.RowKit Go.Shelf
attribute [local go_sem] Oper.semAt_some
def splitW (w : World) (s : ByteArray) : World := ((w.alloc (.cells #[.string s] 9)).alloc (.cells #[.string ⟨#[47]⟩] 9)).alloc (.cells #[.int .i64 0] 3)
set_option maxHeartbeats 1000000 in
theorem splitSeq_in (d : Nat) (s : ByteArray) (w : World) :
    CallsIn Fence.wide d Tryd.prog 81 #[.string s, .string ⟨#[47]⟩, .int .i64 0] w fun e w' => e = .returned (.func (.func 88) #[] #[.pointer (some ⟨w.heap.size + 1, 0, none⟩), .pointer (some ⟨w.heap.size, 0, none⟩), .pointer (some ⟨w.heap.size + 2, 0, none⟩)]) ∧ w' = splitW w s := by
  refine callsIn_of_wp Tryd.func81 rfl trivial ?_ rfl
  simp only [Tryd.ntmps81, List.size_toArray, List.length_cons, List.length_nil, Nat.reduceAdd, Nat.reduceSub, Array.replicate_succ, Array.replicate_zero, List.push_toArray, List.append_toArray, List.nil_append, List.cons_append]
  gi_wp2
  go_ret
  exact ⟨by simp, rfl⟩
set_option maxHeartbeats 1000000 in
theorem SplitSeq_in (d : Nat) (hd : 1 ≤ d) (s : ByteArray) (w : World) :
    CallsIn Fence.wide d Tryd.prog 72 #[.string s, .string ⟨#[47]⟩] w fun e w' => e = .returned (.func (.func 88) #[] #[.pointer (some ⟨w.heap.size + 1, 0, none⟩), .pointer (some ⟨w.heap.size, 0, none⟩), .pointer (some ⟨w.heap.size + 2, 0, none⟩)]) ∧ w' = splitW w s := by
  refine callsIn_of_wp Tryd.func72 rfl trivial ?_ rfl
  simp only [Tryd.ntmps72, List.size_toArray, List.length_cons, List.length_nil, Nat.reduceAdd, Nat.reduceSub, Array.replicate_succ, Array.replicate_zero, List.push_toArray, List.append_toArray, List.nil_append, List.cons_append]
  gi_wp2_with (refine ⟨trivial, ?_⟩; gi_at_call 81; refine (splitSeq_in _ s w).mono ?_; rintro e w1 ⟨rfl, rfl⟩)
  go_ret
  exact ⟨rfl, rfl⟩
theorem split_turns (d : Nat) (hd : 1 ≤ d) (s : ByteArray) (hs : s.size ≤ 10000) (w : World) :
    Turning Fence.wide d Tryd.prog 88 #[.pointer (some ⟨w.heap.size + 1, 0, none⟩), .pointer (some ⟨w.heap.size, 0, none⟩), .pointer (some ⟨w.heap.size + 2, 0, none⟩)] (fun x : ByteArray => #[Value.string x]) w.heap.size
      (fun pre x => GotAt (octs s) ((pre ++ [x]).map octs)) (fun xs => LastAt (octs s) (xs.map octs)) (fun pre => GotAt (octs s) (pre.map octs)) (splitW w s) := fun l J Jx W hW _ _ hJB hY h0 _ => by
  have E0 : Box (splitW w s) w.heap.size (.cells #[.string s] 9) := ((Box.put _ rfl).below (below_new _ _)).below (below_new _ _)
  have E1 : Box (splitW w s) (w.heap.size + 1) (.cells #[.string ⟨#[47]⟩] 9) := (Box.put _ (by simp)).below (below_new _ _)
  have E2 : Box (splitW w s) (w.heap.size + 2) (.cells #[.int .i64 0] 3) := Box.put _ (by simp)
  exact split1_in d hd l w.heap.size s hs J Jx hJB hY W (E0.below hW) (E1.below hW) (E2.below hW) h0
theorem ownn_kept {lo : Nat} {W W' : World} {row : Option Nat} {v : Value} {vs : List Value} (h : OwnN lo W v vs) (hg : W.grownBy W' row) (hr : ∀ r, row = some r → ∃ o : Obj, W.heap[r]? = some o ∧ o.isCells = false) : OwnN lo W' v vs := by
  refine h.kept hg ?_
  rcases h.2 with ⟨rfl, _⟩ | ⟨g, cap, cur, rfl, _, hgb, _⟩
  · exact .inl rfl
  · refine .inr fun e' => ?_
    obtain ⟨o, ho, hc⟩ := hr g (by simpa [Value.ownBlock] using e'.symm)
    rw [hgb] at ho; cases ho; cases hc
theorem Seg.lowset {lo : Nat} {W : World} {sv : Value} {zs : List Int} (h : Seg lo W sv zs) {k : Nat} (hk : k < lo) (u : Value) : Seg lo (W.setCell ⟨k, 0, none⟩ u) sv zs :=
  seg_keep h (fun j h1 _ => Below.heap_setCell _ _ _ _ (by show j ≠ k; omega)) (by simp [World.setCell])
def NumsSaid (R : List Int) (w : World) (e : Ending) (w' : World) : Prop :=
  ∃ (pv : Value) (ar : Bool), e = .returned (.tuple #[pv, .bool ar]) ∧ Below w.heap.size w w' ∧
    ((ar = false ∧ NoNum R) ∨ (ar = true ∧ ∃ (vs : List Value) (xs : List (List Int)), OwnN w.heap.size w' pv vs ∧ Kids w.heap.size w' pv xs vs ∧ LastAt R xs))
set_option maxRecDepth 100000 in
set_option maxHeartbeats 4000000 in
theorem numbers_in (s : ByteArray) (w : World) (hs : s.size ≤ 1000) : Calls Tryd.prog 62 #[.string s] w fun e w' => NumsSaid (octs s) w e w' := by
  refine (callsIn_wide (n := 4)).1 ?_
  refine callsIn_of_wp_marks Tryd.func62 rfl trivial ?_ rfl
  simp only [Tryd.ntmps62, List.size_toArray, List.length_cons, List.length_nil, Nat.reduceAdd, Nat.reduceSub, Array.replicate_succ, Array.replicate_zero, List.push_toArray, List.append_toArray, List.nil_append, List.cons_append]
  gi_wp2_with fail
  have bP0 := (Boxed.new w 107 (.slice none 0 0)).alloc (.cells #[.bool false] 4)
  have bA0 := Boxed.new (w.alloc (.cells #[.slice none 0 0] 107)) 4 (.bool false)
  have hB0 : Below w.heap.size w ((w.alloc (.cells #[.slice none 0 0] 107)).alloc (.cells #[.bool false] 4)) := ((Below.refl _ w).alloc (Nat.le_refl _) _).alloc (by simp) _
  rw [World.size_alloc] at bA0
  obtain ⟨w1, hw1⟩ : ∃ w1, (w.alloc (.cells #[.slice none 0 0] 107)).alloc (.cells #[.bool false] 4) = w1 := ⟨_, rfl⟩
  have hsz1 : w1.heap.size = w.heap.size + 2 := by rw [← hw1]; simp
  rw [hw1] at bP0 bA0 hB0 ⊢
  clear hw1
  have hT := split_turns 3 (by omega) s (by omega) w1
  have bP2 : Boxed (splitW w1 s) w.heap.size 107 (.slice none 0 0) := ((bP0.alloc _).alloc _).alloc _
  have bA2 : Boxed (splitW w1 s) (w.heap.size + 1) 4 (.bool false) := ((bA0.alloc _).alloc _).alloc _
  have hB2 : Below w.heap.size w (splitW w1 s) := ((hB0.alloc (by omega) _).alloc (by simp; omega) _).alloc (by simp; omega) _
  have hsp := SplitSeq_in 3 (by omega) s w1
  have hsz2 : (splitW w1 s).heap.size = w.heap.size + 5 := by unfold splitW; simp [hsz1]
  rw [hsz1] at hT hsp
  refine ⟨trivial, ?_⟩
  refine hsp.mono ?_
  rintro e w2 ⟨rfl, rfl⟩
  obtain ⟨w2, hw2⟩ : ∃ w2, splitW w1 s = w2 := ⟨_, rfl⟩
  rw [hw2] at hT bP2 bA2 hB2 hsz2 ⊢
  clear hw2 hB0 bP0 bA0 hsz1 hsp
  have HSZ := hide hsz2
  clear hsz2
  gi_wp2_with fail
  refine wpIn_rangeFunc_turning rfl (by omega) (gf := 88) (lb := #[.pointer (some ⟨w.heap.size + 2 + 1, 0, none⟩), .pointer (some ⟨w.heap.size + 2, 0, none⟩), .pointer (some ⟨w.heap.size + 2 + 2, 0, none⟩)]) rfl trivial (enters_of Tryd.func88 (by kernel_rfl) rfl)
    hT (Below.refl _ _) (by have := HSZ.out; omega) (fun _ => rfl)
    (fun pre W => ∃ (pv : Value) (vs : List Value) (ar : Bool), Boxed W w.heap.size 107 pv ∧ OwnN w2.heap.size W pv vs ∧ Kids w2.heap.size W pv (pre.map octs) vs ∧ Boxed W (w.heap.size + 1) 4 (.bool ar) ∧ (pre ≠ [] → ar = true) ∧ Below w.heap.size w W ∧ w2.heap.size ≤ W.heap.size)
    (fun c pre W => c = .exit 0 ∧ (∃ (pa : Option Addr) (pn pc : Nat), Boxed W w.heap.size 107 (.slice pa pn pc)) ∧ Boxed W (w.heap.size + 1) 4 (.bool false) ∧ NoNum (octs s) ∧ Below w.heap.size w W)
    (fun pre A B row hs hg hr => by
      obtain ⟨pv, vs, ar, h1, h2, h3, h4, h5, h6, h7⟩ := hs
      have hr' := fun r e => (hr r e).2
      exact ⟨pv, vs, ar, boxed_own w.heap.size 107 (fun _ : Unit => pv) () A B row h1 hg hr', ownn_kept h2 hg hr', h3.to (fun sv zs S => S.kept hg hr'), boxed_own (w.heap.size + 1) 4 (fun _ : Unit => .bool ar) () A B row h4 hg hr', h5, ownFrom_below (Nat.le_refl _) hB2.size pre A B row h6 hg hr, Nat.le_trans h7 hg.size⟩)
    (fun c pre A B row hs hg hr => by
      obtain ⟨h0, ⟨pa, pn, pc, h1⟩, h2, h3, h4⟩ := hs
      have hr' := fun r e => (hr r e).2
      exact ⟨h0, ⟨pa, pn, pc, boxed_own w.heap.size 107 (fun _ : Unit => .slice pa pn pc) () A B row h1 hg hr'⟩, boxed_own (w.heap.size + 1) 4 (fun _ : Unit => .bool false) () A B row h2 hg hr', h3, ownFrom_below (Nat.le_refl _) hB2.size pre A B row h4 hg hr⟩)
    (fun pre V v hs => by
      obtain ⟨pv, vs, ar, h1, h2, h3, h4, h5, h6, h7⟩ := hs
      exact ⟨pv, vs, ar, h1.other (by omega) v, ownsRow_setCell_below h2 (by have := HSZ.out; show w.heap.size + 2 < w2.heap.size; omega) v, h3.to (fun sv zs S => S.lowset (by have := HSZ.out; show w.heap.size + 2 < w2.heap.size; omega) v), h4.other (by omega) v, h5, h6.setCell (p := ⟨w.heap.size + 2, 0, none⟩) (by show w.heap.size ≤ w.heap.size + 2; omega) v, by simpa [World.setCell] using h7⟩)
    ⟨.slice none 0 0, [], false, bP2, ownn_nil _ _, .zero, bA2, fun h => absurd rfl h, hB2, Nat.le_refl _⟩
    (fun x => { tmps := #[.string s, undef, .pointer (some ⟨w.heap.size, 0, none⟩), .pointer (some ⟨w.heap.size + 1, 0, none⟩), .string x, undef, undef, .string s, .func (.func 88) #[] #[.pointer (some ⟨w.heap.size + 2 + 1, 0, none⟩), .pointer (some ⟨w.heap.size + 2, 0, none⟩), .pointer (some ⟨w.heap.size + 2 + 2, 0, none⟩)], .string x, undef, undef, undef, undef, undef, undef, undef, undef, undef, undef, undef, undef, undef, undef, undef, undef, undef, undef, undef, undef, undef], defers := [] }) ?assign ?body ?done ?stop
  case assign =>
    intro l x W K hK
    gi_wp2
    exact hK
  case body =>
    rintro l pre x W ⟨pv, vs, ar, bP, hO, hK, bA, har, hB, hsz⟩ hgot
    have hpl : (pre.map octs).length ≤ 2 := hK.len.2
    have hxs : x.size ≤ 1000 := by
      have h1 := got_len (R := octs s) (x := octs x) (pre := pre.map octs) (by rw [List.map_append] at hgot; exact hgot)
      rw [octs_len, octs_len] at h1
      omega
    have hget := get_any x W (Or.inl hxs)
    have HGOT : Hid (GotAt (octs s) (pre.map octs ++ [octs x])) := by rw [List.map_append] at hgot; exact hgot
    clear hgot
    gi_wp2_with fail
    refine ⟨trivial, ?_⟩
    refine (CallsIn.inRound l (callsIn_wide.2 hget)).mono ?_
    rintro e W1 ⟨a1, c1, z, er, q, rfl, S, hi, hle, hb1⟩
    have sz1 := hb1.size
    have h5 := HSZ.out
    have bP1 := Boxed.belowed bP hb1 bP.lt
    have bA1 := Boxed.belowed bA hb1 bA.lt
    have F1 : Box (W1.alloc (.cells #[.int .i64 er, .int .i64 q] 48)) W1.heap.size (.cells #[.int .i64 er, .int .i64 q] 48) := Box.put _ rfl
    have bPf := bP1.alloc (.cells #[.int .i64 er, .int .i64 q] 48)
    have bAf := bA1.alloc (.cells #[.int .i64 er, .int .i64 q] 48)
    have hbf : Below W.heap.size W (W1.alloc (.cells #[.int .i64 er, .int .i64 q] 48)) := hb1.alloc sz1 _
    have hKf : KeepsFrom w2.heap.size W (W1.alloc (.cells #[.int .i64 er, .int .i64 q] 48)) := (keepsFrom_below hb1).trans ((KeepsOthers.alloc _ _).from _)
    have Sf := S.below (below_new W1 (.cells #[.int .i64 er, .int .i64 q] 48))
    obtain ⟨V, hV⟩ : ∃ V, W1.alloc (.cells #[.int .i64 er, .int .i64 q] 48) = V := ⟨_, rfl⟩
    have hVs : W1.heap.size < V.heap.size := by rw [← hV]; simp
    rw [hV] at F1 bPf bAf hbf hKf Sf
    obtain ⟨k0, k1, f0, f1⟩ := F1.two
    have hcP := bPf.cell
    have hfP := bPf.frozen
    have hcA := bAf.cell
    have hfA := bAf.frozen
    obtain ⟨pa, pc, rfl⟩ := ownn_form hO
    have hVw : Below w.heap.size w V := hB.trans (hbf.mono hB.size)
    have hkf : ∀ k, w.heap.size + 2 ≤ k → k < w.heap.size + 2 + 3 → V.heap[k]? = W.heap[k]? := fun k h1 h2 => hbf.block k (by omega)
    have hvl : vs.length ≤ 2 := by rw [hK.len.1]; exact hpl
    have HLT : Hid ((∃ e, getP (octs x) = .error e) ∨ ¬ vs.length < 2 → NoNum (octs s)) := fun h => hK.bad HGOT.out h
    rcases hi.split with ⟨hok, hn, rfl, rfl⟩ | ⟨hbad, rfl⟩
    · by_cases h2 : vs.length < 2
      · have h2i : decide ((vs.length : Int) < 2) = true := decide_eq_true (by omega)
        have bA4 := bAf.set (.bool true)
        have bP4 := bPf.other (B' := w.heap.size + 1) (by omega) (.bool true)
        have hB4 := hVw.setCell (p := ⟨w.heap.size + 1, 0, none⟩) (by show w.heap.size ≤ w.heap.size + 1; omega) (.bool true)
        have hK4 := hKf.trans ((KeepsOthers.setCell V ⟨w.heap.size + 1, 0, none⟩ (.bool true)).from w2.heap.size)
        have hO4 : OwnN w2.heap.size (V.setCell ⟨w.heap.size + 1, 0, none⟩ (.bool true)) (.slice pa vs.length pc) vs := ownsRow_setCell_below (ownn_below hO hbf) (by show w.heap.size + 1 < w2.heap.size; omega) _
        have hz4 : (V.setCell ⟨w.heap.size + 1, 0, none⟩ (.bool true)).heap.size = V.heap.size := by simp [World.setCell]
        have hs4 : ∀ k, k ≠ w.heap.size + 1 → (V.setCell ⟨w.heap.size + 1, 0, none⟩ (.bool true)).heap[k]? = V.heap[k]? := fun k hk => Below.heap_setCell _ _ _ _ hk
        obtain ⟨X, hX⟩ : ∃ X, V.setCell ⟨w.heap.size + 1, 0, none⟩ (.bool true) = X := ⟨_, rfl⟩
        have hcA4 := bA4.cell
        have hfA4 := bA4.frozen
        have hcP4 := bP4.cell
        have hfP4 := bP4.frozen
        rw [hX] at bA4 bP4 hB4 hK4 hO4 hz4 hs4
        obtain ⟨b', c', Y, hap, hO5, hg5, hat⟩ := ownn_append hO4 a1 z.length c1 (by omega) (by omega)
        have hnr : some w.heap.size ≠ (Value.slice pa vs.length pc).ownBlock := fun e => by have := (hO4.lt w.heap.size e.symm).1; omega
        have hnr1 : some (w.heap.size + 1) ≠ (Value.slice pa vs.length pc).ownBlock := fun e => by have := (hO4.lt _ e.symm).1; omega
        have bP5 := (bP4.alloc (.cells #[.slice a1 z.length c1] 23)).kept hg5 hnr
        have bA5 := (bA4.alloc (.cells #[.slice a1 z.length c1] 23)).kept hg5 hnr1
        have hB5 : Below w.heap.size w Y := (hB4.alloc hB4.size _).grown hg5 (by simp; have := hB4.size; omega) (fun k hk => by have := (hO4.lt k hk).1; omega)
        have hK5 : KeepsFrom w2.heap.size W (Y.setCell ⟨w.heap.size, 0, none⟩ (.slice (some ⟨b', 0, none⟩) (vs.length + 1) c')) := ((hK4.trans ((KeepsOthers.alloc X _).from _)).trans ((KeepsOthers.of_grownBy hg5 (ownn_cells hO4 _)).from _)).trans ((KeepsOthers.setCell _ _ _).from _)
        have hY1 : ∀ b, b ≠ w.heap.size → b ≠ w.heap.size + 1 → b < V.heap.size → (Value.slice pa vs.length pc).ownBlock ≠ some b → (Y.setCell ⟨w.heap.size, 0, none⟩ (.slice (some ⟨b', 0, none⟩) (vs.length + 1) c')).heap[b]? = V.heap[b]? := fun b h0 h1 h2 h3 =>
          (Below.heap_setCell _ _ _ _ (by show b ≠ w.heap.size; exact h0)).trans ((hg5.block b (by simp; omega) (fun e => h3 e.symm)).trans ((Below.heap_alloc _ _ _ (by omega)).trans (hs4 b h1)))
        have hYs : V.heap.size ≤ (Y.setCell ⟨w.heap.size, 0, none⟩ (.slice (some ⟨b', 0, none⟩) (vs.length + 1) c')).heap.size := by
          have := hg5.size
          simp [World.setCell] at this ⊢
          omega
        have hK6 : Kids w2.heap.size (Y.setCell ⟨w.heap.size, 0, none⟩ (.slice (some ⟨b', 0, none⟩) (vs.length + 1) c')) (.slice (some ⟨b', 0, none⟩) (vs.length + 1) c') ((pre ++ [x]).map octs) (vs ++ [.slice a1 z.length c1]) := by
          rw [List.map_append]
          refine hK.next h2 hO hsz hbf Sf hn hok hle (fun b h0 h1 h3 => hY1 b (by omega) (by omega) h1 h3) hYs ?_
          rcases hat with h | h
          · exact Or.inl h
          · exact Or.inr ⟨b', rfl, by omega⟩
        have hK7 : ∀ k, w.heap.size + 2 ≤ k → k < w.heap.size + 2 + 3 → (Y.setCell ⟨w.heap.size, 0, none⟩ (.slice (some ⟨b', 0, none⟩) (vs.length + 1) c')).heap[k]? = W.heap[k]? := fun k h0 h1 =>
          (hY1 k (by omega) (by omega) (by omega) (fun e => by have := (hO.lt k e).1; omega)).trans (hkf k h0 h1)
        have hP6 := bP5.set (.slice (some ⟨b', 0, none⟩) (vs.length + 1) c')
        have hA6 := bA5.other (B' := w.heap.size) (by omega) (.slice (some ⟨b', 0, none⟩) (vs.length + 1) c')
        have hO6 : OwnN w2.heap.size (Y.setCell ⟨w.heap.size, 0, none⟩ (.slice (some ⟨b', 0, none⟩) (vs.length + 1) c')) (.slice (some ⟨b', 0, none⟩) (vs.length + 1) c') (vs ++ [.slice a1 z.length c1]) := ownsRow_setCell_below hO5 (by show w.heap.size < w2.heap.size; omega) _
        have hB6 := hB5.setCell (p := ⟨w.heap.size, 0, none⟩) (Nat.le_refl _) (.slice (some ⟨b', 0, none⟩) (vs.length + 1) c')
        have H1 := hide hK5
        have H2 := hide hK6
        have H3 := hide hK7
        have H4 := hide hP6
        have H5 := hide hA6
        have H6 := hide hO6
        have H7 := hide hB6
        have H8 : Hid (w2.heap.size ≤ (Y.setCell ⟨w.heap.size, 0, none⟩ (.slice (some ⟨b', 0, none⟩) (vs.length + 1) c')).heap.size) := by rw [Hid]; omega
        have hcP5 := bP5.cell
        have hfP5 := bP5.frozen
        have hXs : X.heap.size = W1.heap.size + 1 := by rw [hz4, ← hV]; simp
        rw [hXs, ← hX] at hap
        clear hXs hX hK5 hK6 hK7 hP6 hA6 hO6 hB6 hYs hY1 hB5 bA5 bP5 hg5 hat hO5 hnr hnr1 hs4 hz4 hO4 hK4 hB4 bP4 bA4 hi hok hget HLT h2 hkf hK hO har hKf hbf hVw Sf S hle hcP4 hfP4 hn
        rw [← hV] at hcP hfP hcA hfA k0 k1 f0 f1 hcA4 hfA4 hap
        clear hV
        gi_wp2_with (gi_at_builtin; go_loud (refine wpListIn_append_run _ rfl _ _ _ _ rfl _ _ rfl rfl _ _ hap ?_))
        exact ⟨H1.out, H3.out, _, _, true, H4.out, H6.out, H2.out, H5.out, fun _ => rfl, H7.out, H8.out⟩
      · have HNO := hide (HLT.out (Or.inr h2))
        have h2i : decide ((vs.length : Int) < 2) = false := decide_eq_false (by omega)
        have bA4 := hide (bAf.set (.bool false))
        have bP4 := hide (bPf.other (B' := w.heap.size + 1) (by omega) (.bool false))
        have hB4 := hide (hVw.setCell (p := ⟨w.heap.size + 1, 0, none⟩) (by show w.heap.size ≤ w.heap.size + 1; omega) (.bool false))
        have hK4 := hide (hKf.trans ((KeepsOthers.setCell V ⟨w.heap.size + 1, 0, none⟩ (.bool false)).from _))
        have hcA4 := (bA4.out).cell
        have hfA4 := (bA4.out).frozen
        clear hi hok hget HLT h2 hkf hK hO har hKf hbf hVw Sf S hle
        rw [← hV] at hcP hfP hcA hfA k0 k1 f0 f1 hcA4 hfA4
        have HV := hide hV
        clear hV
        gi_wp2
        rw [HV.out]
        exact ⟨hK4.out, rfl, ⟨_, _, _, bP4.out⟩, bA4.out, HNO.out, hB4.out⟩
    · have HNO := hide (HLT.out (Or.inl ⟨_, hbad⟩))
      have her : (er == 0) = false := beq_eq_false_iff_ne.2 (getP_err hbad)
      have bA4 := hide (bAf.set (.bool false))
      have bP4 := hide (bPf.other (B' := w.heap.size + 1) (by omega) (.bool false))
      have hB4 := hide (hVw.setCell (p := ⟨w.heap.size + 1, 0, none⟩) (by show w.heap.size ≤ w.heap.size + 1; omega) (.bool false))
      have hK4 := hide (hKf.trans ((KeepsOthers.setCell V ⟨w.heap.size + 1, 0, none⟩ (.bool false)).from _))
      have hcA4 := (bA4.out).cell
      have hfA4 := (bA4.out).frozen
      clear hi hbad hget HLT hkf hK hO har hKf hbf hVw Sf S hle
      rw [← hV] at hcP hfP hcA hfA k0 k1 f0 f1 hcA4 hfA4
      have HV := hide hV
      clear hV
      gi_wp2
      rw [HV.out]
      exact ⟨hK4.out, rfl, ⟨_, _, _, bP4.out⟩, bA4.out, HNO.out, hB4.out⟩
  case done =>
    rintro D ys W hD hlast ⟨pv, vs, ar, bP, hO, hK, bA, har, hB, hsz⟩ hdf
    have hne : ys ≠ [] := fun e => last_ne (by rw [e] at hlast; exact hlast)
    obtain rfl : ar = true := har hne
    obtain ⟨pa, pc, rfl⟩ := ownn_form hO
    have HL := hide hlast
    have hcP := bP.cell
    have hfP := bP.frozen
    have hcA := bA.cell
    have hfA := bA.frozen
    clear hlast har hne
    gi_wp2
    gi_region
    have hdz : ((W.setCell ⟨w.heap.size, 0, none⟩ (.slice pa vs.length pc)).setCell ⟨w.heap.size + 1, 0, none⟩ (.bool true)).drew.heap[D]? = some (.deferred (some [])) := by
      have h5 := HSZ.out
      exact (Below.heap_setCell _ _ _ _ (by show D ≠ w.heap.size + 1; omega)).trans ((Below.heap_setCell _ _ _ _ (by show D ≠ w.heap.size; omega)).trans hdf)
    have bPz : Boxed ((W.setCell ⟨w.heap.size, 0, none⟩ (.slice pa vs.length pc)).setCell ⟨w.heap.size + 1, 0, none⟩ (.bool true)).drew w.heap.size 107 (.slice pa vs.length pc) := (bP.set (.slice pa vs.length pc)).other (B' := w.heap.size + 1) (by omega) (.bool true)
    have bAz : Boxed ((W.setCell ⟨w.heap.size, 0, none⟩ (.slice pa vs.length pc)).setCell ⟨w.heap.size + 1, 0, none⟩ (.bool true)).drew (w.heap.size + 1) 4 (.bool true) := (bA.other (B' := w.heap.size) (by omega) (.slice pa vs.length pc)).set (.bool true)
    have hBz : Below w.heap.size w ((W.setCell ⟨w.heap.size, 0, none⟩ (.slice pa vs.length pc)).setCell ⟨w.heap.size + 1, 0, none⟩ (.bool true)).drew := ((hB.setCell (p := ⟨w.heap.size, 0, none⟩) (Nat.le_refl _) _).setCell (p := ⟨w.heap.size + 1, 0, none⟩) (by show w.heap.size ≤ w.heap.size + 1; omega) _).drew
    have hOz : OwnN w2.heap.size ((W.setCell ⟨w.heap.size, 0, none⟩ (.slice pa vs.length pc)).setCell ⟨w.heap.size + 1, 0, none⟩ (.bool true)).drew (.slice pa vs.length pc) vs := (ownsRow_setCell_below (ownsRow_setCell_below hO (a := ⟨w.heap.size, 0, none⟩) (by have := HSZ.out; show w.heap.size < w2.heap.size; omega) _) (a := ⟨w.heap.size + 1, 0, none⟩) (by have := HSZ.out; show w.heap.size + 1 < w2.heap.size; omega) _).drew
    have hKz : Kids w2.heap.size ((W.setCell ⟨w.heap.size, 0, none⟩ (.slice pa vs.length pc)).setCell ⟨w.heap.size + 1, 0, none⟩ (.bool true)).drew (.slice pa vs.length pc) (ys.map octs) vs := hK.to (fun sv zs S => ((S.lowset (by have := HSZ.out; omega) _).lowset (by have := HSZ.out; omega) _).drew)
    obtain ⟨Z, hZ⟩ : ∃ Z, ((W.setCell ⟨w.heap.size, 0, none⟩ (.slice pa vs.length pc)).setCell ⟨w.heap.size + 1, 0, none⟩ (.bool true)).drew = Z := ⟨_, rfl⟩
    rw [hZ] at hdz bPz bAz hBz hOz hKz ⊢
    have hcPz := bPz.cell
    have hcAz := bAz.cell
    clear hZ hcP hfP hcA hfA bP bA hO hK hdf hB
    gi_wp2
    refine ⟨by simp, .inl ⟨_, _, rfl, run_takeDeferred hdz, ?_⟩⟩
    have hDn : some w.heap.size ≠ some D := fun e => by have := HSZ.out; injection e with e; omega
    have hDn1 : some (w.heap.size + 1) ≠ some D := fun e => by have := HSZ.out; injection e with e; omega
    have c0 := (bPz.kept (grownBy_putObj' Z D (.deferred none)) hDn).cell
    have c1 := (bAz.kept (grownBy_putObj' Z D (.deferred none)) hDn1).cell
    have hr : ∀ r, some D = some r → ∃ o : Obj, Z.heap[r]? = some o ∧ o.isCells = false := fun r e => by cases e; exact ⟨_, hdz, rfl⟩
    refine ⟨.tuple #[.slice pa vs.length pc, .bool true], by simp [results, Tryd.f62, go_sem, c0, c1], _, true, rfl, hBz.trans (belowK_b (w := w) (Nat.le_refl _) Z D _ _ (by have := HSZ.out; omega) hdz rfl rfl), Or.inr ⟨rfl, vs, ys.map octs, (ownn_kept hOz (grownBy_putObj' Z D (.deferred none)) hr).mono (by have := HSZ.out; omega), (hKz.to (fun sv zs S => S.kept (grownBy_putObj' Z D (.deferred none)) hr)).mono (by have := HSZ.out; omega), HL.out⟩⟩
  case stop =>
    rintro D c pre W hD _ ⟨rfl, ⟨pa, pn, pc, bP⟩, bA, hno, hB⟩ hdf
    have HNO := hide hno
    have hcP := bP.cell
    have hfP := bP.frozen
    have hcA := bA.cell
    have hfA := bA.frozen
    clear hno
    gi_wp2
    gi_region
    have hdz : ((W.setCell ⟨w.heap.size, 0, none⟩ (.slice pa pn pc)).setCell ⟨w.heap.size + 1, 0, none⟩ (.bool false)).drew.heap[D]? = some (.deferred (some [])) := by
      have h5 := HSZ.out
      exact (Below.heap_setCell _ _ _ _ (by show D ≠ w.heap.size + 1; omega)).trans ((Below.heap_setCell _ _ _ _ (by show D ≠ w.heap.size; omega)).trans hdf)
    have bPz : Boxed ((W.setCell ⟨w.heap.size, 0, none⟩ (.slice pa pn pc)).setCell ⟨w.heap.size + 1, 0, none⟩ (.bool false)).drew w.heap.size 107 (.slice pa pn pc) := (bP.set (.slice pa pn pc)).other (B' := w.heap.size + 1) (by omega) (.bool false)
    have bAz : Boxed ((W.setCell ⟨w.heap.size, 0, none⟩ (.slice pa pn pc)).setCell ⟨w.heap.size + 1, 0, none⟩ (.bool false)).drew (w.heap.size + 1) 4 (.bool false) := (bA.other (B' := w.heap.size) (by omega) (.slice pa pn pc)).set (.bool false)
    have hBz : Below w.heap.size w ((W.setCell ⟨w.heap.size, 0, none⟩ (.slice pa pn pc)).setCell ⟨w.heap.size + 1, 0, none⟩ (.bool false)).drew := ((hB.setCell (p := ⟨w.heap.size, 0, none⟩) (Nat.le_refl _) _).setCell (p := ⟨w.heap.size + 1, 0, none⟩) (by show w.heap.size ≤ w.heap.size + 1; omega) _).drew
    obtain ⟨Z, hZ⟩ : ∃ Z, ((W.setCell ⟨w.heap.size, 0, none⟩ (.slice pa pn pc)).setCell ⟨w.heap.size + 1, 0, none⟩ (.bool false)).drew = Z := ⟨_, rfl⟩
    rw [hZ] at hdz bPz bAz hBz ⊢
    have hcPz := bPz.cell
    have hcAz := bAz.cell
    clear hZ hcP hfP hcA hfA bP bA hdf hB
    gi_wp2
    refine ⟨by simp, .inl ⟨_, _, rfl, run_takeDeferred hdz, ?_⟩⟩
    have hDn : some w.heap.size ≠ some D := fun e => by have := HSZ.out; injection e with e; omega
    have hDn1 : some (w.heap.size + 1) ≠ some D := fun e => by have := HSZ.out; injection e with e; omega
    have c0 := (bPz.kept (grownBy_putObj' Z D (.deferred none)) hDn).cell
    have c1 := (bAz.kept (grownBy_putObj' Z D (.deferred none)) hDn1).cell
    exact ⟨.tuple #[.slice pa pn pc, .bool false], by simp [results, Tryd.f62, go_sem, c0, c1], _, false, rfl, hBz.trans (belowK_b (w := w) (Nat.le_refl _) Z D _ _ (by have := HSZ.out; omega) hdz rfl rfl), Or.inl ⟨rfl, HNO.out⟩⟩
end Go.Proofs.YtfcpaejeppedoaaDoor
namespace Go.Proofs.YtfcpaejeppedoaaDoor
open Go.RowKit
set_option maxRecDepth 100000 in
set_option maxHeartbeats 1000000 in
theorem done_any {lo : Nat} {a : Option Addr} {la ca : Nat} {xs : List Int} {w : World} (ha : Seg lo w (.slice a la ca) xs) (hla : xs.length ≤ 1000) :
    Calls Tryd.prog 28 #[.slice a la ca] w fun e w' => e = .returned (.bool (val xs == 1)) ∧ Below w.heap.size w w' := by
  by_cases h : val xs < 18446744073709551616
  · have ho := one_yes ha (by omega) h
    generalize val xs = x at *
    go_enter Tryd.func28, Tryd.ntmps28
    go_wp2_with fail
    refine ho.mono ?_
    rintro e w1 ⟨rfl, hb1⟩
    clear ho
    go_wp2
    go_ret
    exact ⟨rfl, hb1⟩
  · have ho := one_no ha (by omega) (by omega)
    have HF : Hid ((val xs == 1) = false) := beq_eq_false_iff_ne.2 (by omega)
    clear h
    go_enter Tryd.func28, Tryd.ntmps28
    go_wp2_with fail
    refine ho.mono ?_
    rintro e w1 ⟨rfl, hb1⟩
    clear ho
    go_wp2
    go_ret
    rw [HF.out]
    exact ⟨rfl, hb1⟩
set_option maxRecDepth 100000 in
set_option maxHeartbeats 4000000 in
theorem text_no {lo : Nat} {a c : Option Addr} {ca cc : Nat} {xs ds : List Int} {w : World} (b : Bool) (FA : Fr lo w a ca xs c cc ds) (hl : xs.length ≤ 1000) (hl2 : ds.length ≤ 1000) (hf : formR b xs ds ≠ 0) :
    Calls Tryd.prog 8 #[.agg #[.bool b, .slice a xs.length ca, .slice c ds.length cc]] w fun e w' => e = .returned (.tuple #[.string (strOfNums []), .int .i64 6]) ∧ Below w.heap.size w w' := by
  have hq := below_new w (.cells #[.bool b, .slice a xs.length ca, .slice c ds.length cc] 31)
  have EA := Box.put (w := w) (k := (w.heap.size)) (.cells #[.bool b, .slice a xs.length ca, .slice c ds.length cc] 31) rfl
  replace FA := FA.below hq
  obtain ⟨x, hx⟩ : ∃ x, formR b xs ds = x := ⟨_, rfl⟩
  rw [hx] at hf
  have hk := pcheck_any b FA hl hl2
  rw [hx] at hk
  have hx0 : (x == 0) = false := beq_eq_false_iff_ne.2 hf
  clear hx hf
  go_enter Tryd.func8, Tryd.ntmps8
  obtain ⟨k0, k1, k2, f0, f1, f2⟩ := EA.three
  go_wp2_with fail
  refine hk.mono ?_
  rintro e w1 ⟨rfl, hb⟩
  replace hq := hq.trans (hb.mono hq.size)
  clear hk hb k0 k1 k2 f0 f1 f2
  go_wp2
  go_ret2
  exact ⟨rfl, hq⟩
set_option maxRecDepth 100000 in
set_option maxHeartbeats 4000000 in
theorem text_ok {lo : Nat} {a c : Option Addr} {ca cc : Nat} {xs ds : List Int} {w : World} (b : Bool) (FA : Fr lo w a ca xs c cc ds) (hl : xs.length ≤ 1000) (hl2 : ds.length ≤ 1000) (hf : formR b xs ds = 0) :
    Calls Tryd.prog 8 #[.agg #[.bool b, .slice a xs.length ca, .slice c ds.length cc]] w fun e w' => e = .returned (.tuple #[.string (strOfNums (textZ b (val xs) (val ds))), .int .i64 0]) ∧ Below w.heap.size w w' := by
  have hB : Below w.heap.size w (w.alloc (.cells #[.bool b, .slice a xs.length ca, .slice c ds.length cc] 31)) := (Below.refl _ _).alloc (Nat.le_refl _) _
  have EA := Box.put (w := w) (k := (w.heap.size)) (.cells #[.bool b, .slice a xs.length ca, .slice c ds.length cc] 31) rfl
  replace FA := FA.below hB
  have hk := pcheck_any b FA hl hl2
  rw [hf] at hk
  have b1 := decI_len (val_nonneg FA.up.words) (val_lt FA.up.words)
  have b2 := decI_len (val_nonneg FA.down.words) (val_lt FA.down.words)
  obtain ⟨t1, ht1⟩ : ∃ t, decI (val xs) = t := ⟨_, rfl⟩
  obtain ⟨t2, ht2⟩ : ∃ t, decI (val ds) = t := ⟨_, rfl⟩
  rw [ht1] at b1
  rw [ht2] at b2
  have HT1 := hide ht1
  have HT2 := hide ht2
  obtain ⟨s1, hs1⟩ : ∃ s, strOfNums t1 = s := ⟨_, rfl⟩
  obtain ⟨s2, hs2⟩ : ∃ s, strOfNums t2 = s := ⟨_, rfl⟩
  have z1 : s1.size ≤ 30000 := by rw [← hs1, strOfNums_size]; omega
  have z2 : s2.size ≤ 30000 := by rw [← hs2, strOfNums_size]; omega
  have HS1 := hide hs1
  have HS2 := hide hs2
  clear hf b1 b2 ht1 ht2 hs1 hs2
  go_enter Tryd.func8, Tryd.ntmps8
  obtain ⟨k0, k1, k2, f0, f1, f2⟩ := EA.three
  go_wp2_with fail
  refine hk.mono ?_
  rintro e w1 ⟨rfl, hb⟩
  replace hB := hB.trans (hb.mono hB.size)
  replace FA := FA.below hb
  replace EA := EA.below hb
  clear hk hb k0 k1 k2 f0 f1 f2
  obtain ⟨k0, k1, k2, f0, f1, f2⟩ := EA.three
  have hp := put_any FA.up (by omega)
  rw [HT1.out, HS1.out] at hp
  go_wp2_with fail
  refine hp.mono ?_
  rintro e w2 ⟨rfl, hb⟩
  replace hB := hB.trans (hb.mono hB.size)
  replace FA := FA.below hb
  replace EA := EA.below hb
  clear hp hb k0 k1 k2 f0 f1 f2
  obtain ⟨k0, k1, k2, f0, f1, f2⟩ := EA.three
  have q1 : ¬ 1 + s1.size > 9223372036854775807 := by omega
  have ho := done_any FA.down (by omega)
  have hp2 := fun (W : World) (hW : Below w2.heap.size w2 W) => put_any (FA.down.below hW) (by omega)
  rw [HT2.out, HS2.out] at hp2
  have q3 : ¬ s1.size + 1 + s2.size > 9223372036854775807 := by omega
  have q4 : ¬ 1 + s1.size + 1 + s2.size > 9223372036854775807 := by omega
  have q5 : ¬ s1.size + 1 > 9223372036854775807 := by omega
  have q6 : ¬ 1 + s1.size + 1 > 9223372036854775807 := by omega
  have q7 : ¬ 1 + s2.size > 9223372036854775807 := by omega
  have q8 : ¬ s1.size + (1 + s2.size) > 9223372036854775807 := by omega
  have q9 : ¬ 1 + s1.size + (1 + s2.size) > 9223372036854775807 := by omega
  have e45 : (⟨#[45]⟩ : ByteArray) = strOfNums [45] := rfl
  have e47 : (⟨#[47]⟩ : ByteArray) = strOfNums [47] := rfl
  have G45 := hide e45
  have G47 := hide e47
  clear e45 e47
  by_cases h1 : val ds = 1
  · have hone : (val ds == 1) = true := beq_iff_eq.2 h1
    rw [hone] at ho
    have H1 := hide h1
    clear h1 hone
    cases b
    all_goals
      go_wp2_with fail
      refine ho.mono ?_
      rintro e w3 ⟨rfl, hb3⟩
      go_wp2
      go_ret2
      refine ⟨?_, hB.trans (hb3.mono hB.size)⟩
      rw [← HS1.out, textZ, H1.out, HT1.out]
      first | (rw [G45.out, strOfNums_append]; simp; done) | simp
  · have hone : (val ds == 1) = false := beq_eq_false_iff_ne.2 h1
    rw [hone] at ho
    have H1 := hide h1
    clear h1 hone
    cases b
    all_goals
      go_wp2_with fail
      refine ho.mono ?_
      rintro e w3 ⟨rfl, hb3⟩
      have EA3 := EA.below hb3
      clear ho k0 k1 k2 f0 f1 f2
      obtain ⟨k0, k1, k2, f0, f1, f2⟩ := EA3.three
      go_wp2_with fail
      refine (hp2 _ hb3).mono ?_
      rintro e w4 ⟨rfl, hb4⟩
      clear hp2
      go_wp2
      go_ret2
      have hB3 := hB.trans (hb3.mono hB.size)
      refine ⟨?_, hB3.trans (hb4.mono hB3.size)⟩
      rw [← HS1.out, ← HS2.out, textZ, if_neg H1.out, HT1.out, HT2.out]
      first | (rw [G45.out, G47.out, strOfNums_append, strOfNums_append, strOfNums_append]; simp; done) | (rw [G47.out, strOfNums_append, strOfNums_append]; simp)
def FracSaid (bs : List Int) (w : World) (e : Ending) (w' : World) : Prop :=
  Below w.heap.size w w' ∧ ((∃ (b : Bool) (a : Option Addr) (ca : Nat) (xs : List Int) (c : Option Addr) (cc : Nat) (ds : List Int), e = .returned (.tuple #[.agg #[.bool b, .slice a xs.length ca, .slice c ds.length cc], .bool true]) ∧ Fr w.heap.size w' a ca xs c cc ds ∧ Apart a c xs ds ∧ LowL b xs ds ∧ textZ b (val xs) (val ds) = bs ∧ xs.length ≤ 1000 ∧ ds.length ≤ 1000) ∨
    (∃ (b : Bool) (a : Option Addr) (n ca : Nat) (c : Option Addr) (m cc : Nat), e = .returned (.tuple #[.agg #[.bool b, .slice a n ca, .slice c m cc], .bool false]) ∧ NoText bs))
theorem FR2 {lo : Nat} {W : World} {a c : Option Addr} {ca cc : Nat} {xs ds : List Int} (h : Seg lo W (.slice a xs.length ca) xs) (k : Seg lo W (.slice c ds.length cc) ds) : Fr lo W a ca xs c cc ds := ⟨h, k⟩
theorem cut_sign (s : ByteArray) : ∃ (far : ByteArray) (bl : Bool), (⟨(Lib.trimPrefix s.data.toList [45]).toArray⟩ : ByteArray) = far ∧ Lib.hasPrefix s.data.toList [45] = bl ∧ SignAt (octs s) bl (octs far) ∧ far.size ≤ s.size := by
  refine ⟨_, _, rfl, rfl, ?_, ?_⟩
  · unfold Lib.trimPrefix Lib.hasPrefix
    cases hx : s.data.toList with
    | nil =>
      refine ⟨?_, fun _ => ?_⟩
      · unfold octs; rw [hx]; rfl
      · unfold octs; rw [hx]; simp
    | cons b l =>
      by_cases hb : b = 45
      · subst hb
        have hp : List.isPrefixOf [(45 : UInt8)] (45 :: l) = true := by simp [List.isPrefixOf]
        rw [hp]
        refine ⟨?_, fun h => by cases h⟩
        unfold octs
        rw [hx]
        rfl
      · have hp : List.isPrefixOf [(45 : UInt8)] (b :: l) = false := by simp [List.isPrefixOf]; exact fun h => hb h.symm
        rw [hp]
        refine ⟨?_, fun _ => ?_⟩
        · unfold octs; rw [hx]; rfl
        · unfold octs
          rw [hx]
          simp
          intro h
          apply hb
          apply UInt8.toNat_inj.1
          show b.toNat = 45
          omega
  · unfold Lib.trimPrefix
    split
    · show (List.drop 1 s.data.toList).toArray.size ≤ s.data.size
      simp
    · show s.data.toList.toArray.size ≤ s.data.size
      simp
theorem last_len {R x y : List Int} (h : LastAt R [x, y]) : x.length ≤ R.length ∧ y.length ≤ R.length := by
  obtain ⟨pre, z, e, ⟨h1, _⟩, _⟩ := h
  match pre, e with
  | [p], e =>
    have e2 : x = p ∧ y = z := by simpa using e
    obtain ⟨rfl, rfl⟩ := e2
    rw [h1]
    simp
    omega
  | p :: q :: ps, e => simp at e
theorem last_len1 {R x : List Int} (h : LastAt R [x]) : x.length ≤ R.length := by
  obtain ⟨pre, z, e, ⟨h1, _⟩, _⟩ := h
  cases pre with
  | nil =>
    have e2 : x = z := by simpa using e
    subst e2
    rw [h1]
    simp
  | cons p ps => simp at e
theorem ownn_row {lo : Nat} {W : World} {pv : Value} {vs : List Value} {R : List Int} {xs : List (List Int)} (h : OwnN lo W pv vs) (hl : LastAt R xs) (hk : Kids lo W pv xs vs) : ∃ g cap, pv = .slice (some ⟨g, 0, none⟩) vs.length cap ∧ (g < W.heap.size ∧ W.cell? ⟨g, 0, none⟩ = vs[0]?) ∧ (1 < vs.length → W.cell? ⟨g, 1, none⟩ = vs[1]?) := by
  have hlen : 0 < vs.length := by
    cases hk with
    | zero => exact (last_ne hl).elim
    | one => simp
    | two => simp
  have h' := h
  rcases h'.2 with ⟨rfl, h0⟩ | ⟨g, cap, cur, rfl, _, hgb, _⟩
  · omega
  · have hlt := (h'.lt g rfl).2
    exact ⟨g, cap, rfl, ⟨hlt, World.ownsRow.cellAt h 0 (by omega)⟩, fun h1 => World.ownsRow.cellAt h 1 (by omega)⟩
set_option maxRecDepth 100000 in
set_option maxHeartbeats 4000000 in
theorem fraction_any (s : ByteArray) (w : World) (hs : s.size ≤ 1000) : Calls Tryd.prog 43 #[.string s] w fun e w' => FracSaid (octs s) w e w' := by
  obtain ⟨far, bl, e1, e2, hsg, hfs⟩ := cut_sign s
  have hcut := fun w => Tryd.strings_CutPrefix s ⟨#[45]⟩ w
  simp only at hcut
  rw [e1, e2] at hcut
  have hq := below_new w (.cells #[.bool false, .slice none 0 0, .slice none 0 0] 31)
  have E : Box (w.alloc (.cells #[.bool false, .slice none 0 0, .slice none 0 0] 31)) w.heap.size (.cells #[.bool false, .slice none 0 0, .slice none 0 0] 31) := Box.put _ rfl
  have hnum := numbers_in far (w.alloc (.cells #[.bool false, .slice none 0 0, .slice none 0 0] 31)) (by omega)
  have HSG := hide hsg
  have HOF := hide (octs_octs far)
  have HLEN : Hid ((octs s).length ≤ 10000) := by rw [Hid, octs_len]; omega
  have HLF : Hid ((octs far).length ≤ 1000) := by rw [Hid, octs_len]; omega
  clear e1 e2 hsg hfs
  go_enter Tryd.func43, Tryd.ntmps43
  go_wp2_with fail
  refine (hcut _).mono ?_
  rintro e w1 ⟨rfl, rfl⟩
  clear hcut
  go_wp2_with fail
  refine hnum.mono ?_
  rintro e w2 ⟨pv, ar, rfl, hb2, hcase⟩
  have hB2 := hq.trans (hb2.mono hq.size)
  have E2 := E.below hb2
  clear hnum
  rcases hcase with ⟨rfl, hno⟩ | ⟨rfl, vs, xs, hO, hK, hlast⟩
  · have HNO := hide (no_numbers HSG.out HLEN.out hno)
    obtain ⟨k0, k1, k2, f0, f1, f2⟩ := E2.three
    clear hno
    go_wp2
    clear k0 k1 k2 f0 f1 f2
    have E9 := Box.set3 (.bool false) (.slice none 0 0) (.slice none 0 0) E2
    have T9 := turns3 w.heap.size w2 (.bool false) (.slice none 0 0) (.slice none 0 0)
    obtain ⟨r0, r1, r2, _, _, _⟩ := E9.three
    refine bodyPost_ret (v := .tuple #[.agg #[.bool false, .slice none 0 0, .slice none 0 0], .bool false]) (by simp [results, Tryd.f43, go_sem, r0, r1, r2]) rfl ?_
    exact ⟨hB2.trans T9.below, Or.inr ⟨_, _, _, _, _, _, _, rfl, HNO.out⟩⟩
  · obtain ⟨g, cap, hpv, hrow⟩ := ownn_row hO hlast hK
    subst hpv
    cases hK with
    | zero => exact (last_ne hlast).elim
    | @one x a c z S nz g1 l F =>
      have hone := last_one hlast g1
      have hll := last_len1 hlast
      have hlf := HLF.out
      have hzl : z.length ≤ 1000 := by omega
      have HT1 : Hid (textZ bl (val z) 1 = octs s) := text_one HSG.out HOF.out hone
      have hof := of_any 1 (by decide) w2
      simp only [List.length_cons, List.length_nil, Nat.reduceAdd]
      clear hone g1 hlast hrow hll hlf
      go_wp2_with fail
      refine hof.mono ?_
      rintro e wo ⟨b, d, t, rfl, To, nt, vt, lt, hbo⟩
      have HT : Hid (textZ bl (val z) (val t) = octs s) := by rw [Hid, vt]; exact HT1.out
      have htl : t.length ≤ 1000 := by omega
      have hOo := ownn_below hO hbo
      obtain ⟨g3, cp3, w3, hap, hO3, hg3, hat⟩ := ownn_append hOo b t.length d (by simp) (Nat.le_trans hb2.size hbo.size)
      have hlt := hO.lt g rfl
      have hn3 := hq.size
      have E2o := E2.below hbo
      have hno : ∀ k, k < wo.heap.size → k ≠ g → w3.heap[k]? = wo.heap[k]? := fun k h1 h2 => (hg3.block k (by simp; omega) (fun e => by injection e with e; exact h2 e)).trans (Below.heap_alloc _ _ _ h1)
      have hs3 : wo.heap.size ≤ w3.heap.size := by have := hg3.size; simp at this; omega
      have hE := E.lt
      have E3 : Box w3 w.heap.size (.cells #[.bool false, .slice none 0 0, .slice none 0 0] 31) := E2o.heap (hno _ E2o.lt (by have := hlt.1; simp at this; omega))
      have S3 := (seg_row_keep (S.below hbo) (fun hz b' o' e h1 h2 => hno b' h2 (fun e2 => F hz b' o' e (by rw [e2]; rfl))) hs3).mono hq.size
      have T3 := (seg_row_keep To (fun _ b' _ _ h1 h2 => hno b' h2 (by omega)) hs3).mono (show w.heap.size ≤ w2.heap.size from hB2.size)
      have hBo := hB2.trans (hbo.mono hB2.size)
      have hB3 : Below w.heap.size w w3 := (hBo.alloc hBo.size _).grown hg3 (by simp; have := hBo.size; omega) (fun k hk => by have := (hOo.lt k hk).1; simp at this; omega)
      have c0 : w3.cell? ⟨g3, 0, none⟩ = some (.slice a z.length c) := World.ownsRow.cellAt hO3 0 (by simp)
      have c1 : w3.cell? ⟨g3, 1, none⟩ = some (.slice b t.length d) := World.ownsRow.cellAt hO3 1 (by simp)
      have hgw3 := (hO3.lt g3 rfl).2
      have A : Apart a b z t := apart_of (fun hz b' o' e => (seg_at_least S hz e).2) To (Nat.le_refl _)
      have c2 := ((below_new w3 (.cells #[.bool false, .slice none 0 0, .slice none 0 0] 31)).cell (p := ⟨g3, 0, none⟩) hgw3).trans c0
      have c3 := ((below_new w3 (.cells #[.bool false, .slice none 0 0, .slice none 0 0] 31)).cell (p := ⟨g3, 1, none⟩) hgw3).trans c1
      have hb3 : Below w.heap.size w w3 := hB3
      simp only [List.length_cons, List.length_nil, Nat.reduceAdd] at hap
      clear hof hno hs3 hE E2o S To F hOo hO3 hg3 hat hlt hn3 hBo hO E2 HT1 vt
      go_wp2_with (at_builtin; refine Lib.wpList_append_run _ rfl _ _ _ _ rfl _ _ rfl rfl _ _ hap ?_)
      go_region
      have EV := E3.below (below_new w3 (.cells #[.bool bl, .slice a z.length c, .slice b t.length d] 31))
      have hBV := hB3.trans ((below_new w3 (.cells #[.bool bl, .slice a z.length c, .slice b t.length d] 31)).mono hB3.size)
      have SV := S3.below (below_new w3 (.cells #[.bool bl, .slice a z.length c, .slice b t.length d] 31))
      have TV := T3.below (below_new w3 (.cells #[.bool bl, .slice a z.length c, .slice b t.length d] 31))
      have ER : Box (w3.alloc (.cells #[.bool bl, .slice a z.length c, .slice b t.length d] 31)) w3.heap.size (.cells #[.bool bl, .slice a z.length c, .slice b t.length d] 31) := Box.put _ rfl
      have hmn : w3.heap.size ≠ w.heap.size := by have := E3.lt; omega
      obtain ⟨m, hm⟩ : ∃ m, w3.heap.size = m := ⟨_, rfl⟩
      rw [hm] at ER hmn ⊢
      replace EV := EV.drew
      replace ER := ER.drew
      replace SV := SV.drew
      replace TV := TV.drew
      replace hBV := hBV.drew
      obtain ⟨V, hV⟩ : ∃ V, (w3.alloc (.cells #[.bool bl, .slice a z.length c, .slice b t.length d] 31)).drew = V := ⟨_, rfl⟩
      rw [hV] at EV ER SV TV hBV ⊢
      obtain ⟨f, hf⟩ : ∃ f, formR bl z t = f := ⟨_, rfl⟩
      have hck := fun (W : World) (hW : Below V.heap.size V W) => pcheck_any bl (FR2 (SV.below hW) (TV.below hW)) hzl htl
      rw [hf] at hck
      have HF := hide hf
      have hkeep : ∀ W : World, Below V.heap.size V W → (W.cell? ⟨m, 0, none⟩ = some (.bool bl) ∧ W.cell? ⟨m, 1, none⟩ = some (.slice a z.length c) ∧ W.cell? ⟨m, 2, none⟩ = some (.slice b t.length d)) := fun W hW => by
        obtain ⟨x0, x1, x2, _, _, _⟩ := (ER.below hW).three
        exact ⟨x0, x1, x2⟩
      clear hV hf hm S3 T3 E3 c0 c1 c2 c3 hb3 hB3
      obtain ⟨k0, k1, k2, f0, f1, f2⟩ := EV.three
      obtain ⟨j0, j1, j2, _, _, _⟩ := ER.three
      go_wp2_with fail
      go_region_held3 (fun W => W.cell? ⟨m, 0, none⟩ = some (.bool bl) ∧ W.cell? ⟨m, 1, none⟩ = some (.slice a z.length c) ∧ W.cell? ⟨m, 2, none⟩ = some (.slice b t.length d))
        (first | exact hkeep _ ⟨rfl, rfl, rfl, Nat.le_refl _, fun _ _ => rfl⟩ | exact hk1.out | exact hk2.out)
        (first
        | (go_at_call 22
           refine (hck _ ?_).mono ?_
           exact ⟨rfl, rfl, rfl, Nat.le_refl _, fun _ _ => rfl⟩
           rintro e w4 ⟨rfl, hb4⟩
           have hb4' : Below V.heap.size V w4 := ⟨hb4.1, hb4.2, hb4.3, hb4.4, hb4.5⟩
           have hk1 := hide (hkeep w4 hb4')
           have E4 := EV.below hb4'
           have hk2 : Hid ((((w4.setCell ⟨w.heap.size, 0, none⟩ (.bool bl)).setCell ⟨w.heap.size, 1, none⟩ (.slice a z.length c)).setCell ⟨w.heap.size, 2, none⟩ (.slice b t.length d)).cell? ⟨m, 0, none⟩ = some (.bool bl) ∧ (((w4.setCell ⟨w.heap.size, 0, none⟩ (.bool bl)).setCell ⟨w.heap.size, 1, none⟩ (.slice a z.length c)).setCell ⟨w.heap.size, 2, none⟩ (.slice b t.length d)).cell? ⟨m, 1, none⟩ = some (.slice a z.length c) ∧ (((w4.setCell ⟨w.heap.size, 0, none⟩ (.bool bl)).setCell ⟨w.heap.size, 1, none⟩ (.slice a z.length c)).setCell ⟨w.heap.size, 2, none⟩ (.slice b t.length d)).cell? ⟨m, 2, none⟩ = some (.slice b t.length d)) := by
             have q := ((ER.below hb4').turns (turns3 w.heap.size w4 (.bool bl) (.slice a z.length c) (.slice b t.length d)) hmn).three
             exact ⟨q.1, q.2.1, q.2.2.1⟩
           obtain ⟨r0, r1, r2, g0, g1, g2⟩ := E4.three
           clear hb4))
      all_goals
        have hB4 := hBV.trans (hb4'.mono hBV.size)
        have E5 := Box.set3 (.bool bl) (.slice a z.length c) (.slice b t.length d) E4
        have T9 := turns3 w.heap.size w4 (.bool bl) (.slice a z.length c) (.slice b t.length d)
        have S5 := (SV.below hb4').beside E4 (noWord3 (fun _ e => by cases e) (fun _ e => by cases e) (fun _ e => by cases e)) T9
        have T5 := (TV.below hb4').beside E4 (noWord3 (fun _ e => by cases e) (fun _ e => by cases e) (fun _ e => by cases e)) T9
        have HS5 := hide S5
        have HT5 := hide T5
        have HB5 := hide (hB4.trans T9.below)
        have HL : Hid ((f == 0) = true → LowL bl z t) := fun h => (formR_low S5.words T5.words).1 (HF.out.trans (beq_iff_eq.1 h))
        have HN : Hid ((f == 0) = false → NoText (octs s)) := fun h => no_form S5.words T5.words nz nt HT.out (by rw [HF.out]; exact beq_eq_false_iff_ne.1 h)
        obtain ⟨y0, y1, y2, _, _, _⟩ := E5.three
        clear S5 T5 k0 k1 k2 f0 f1 f2 j0 j1 j2 r0 r1 r2 g0 g1 g2 hk1 hk2 E5 T9 hck hkeep
        obtain ⟨ok, hok⟩ : ∃ o, (f == 0) = o := ⟨_, rfl⟩
        rw [hok] at HL HN ⊢
        clear hok
        go_wp2
        refine bodyPost_ret (v := .tuple #[.agg #[.bool bl, .slice a z.length c, .slice b t.length d], .bool ok]) (by simp [results, Tryd.f43, go_sem, y0, y1, y2]) rfl ?_
        cases ok with
        | true => exact ⟨HB5.out, Or.inl ⟨_, _, _, _, _, _, _, rfl, FR2 HS5.out HT5.out, A, HL.out rfl, HT.out, hzl, htl⟩⟩
        | false => exact ⟨HB5.out, Or.inr ⟨_, _, _, _, _, _, _, rfl, HN.out rfl⟩⟩
    | @two x y a b c d z t S n g1 l T nT g2 l2 A =>
      have htwo := last_two hlast g1 g2
      have hgw := hrow.1.1
      have hx1 : w2.cell? ⟨g, 0, none⟩ = some (.slice a z.length c) := hrow.1.2
      have hx2 : w2.cell? ⟨g, 1, none⟩ = some (.slice b t.length d) := hrow.2 (by simp)
      simp only [List.length_cons, List.length_nil, Nat.reduceAdd]
      have hll := last_len hlast
      have hlf := HLF.out
      have hzl : z.length ≤ 1000 := by omega
      have htl : t.length ≤ 1000 := by omega
      have hone := done_any T (by omega)
      by_cases h1 : val t = 1
      · have hb1 : (val t == 1) = true := beq_iff_eq.2 h1
        rw [hb1] at hone
        have HNO : Hid (NoText (octs s)) := no_one HSG.out HLEN.out (h1 ▸ htwo)
        obtain ⟨k0, k1, k2, f0, f1, f2⟩ := E2.three
        go_wp2_with fail
        refine hone.mono ?_
        rintro e w3 ⟨rfl, hb3⟩
        have E3 := E2.below hb3
        have hB3 := hB2.trans (hb3.mono hB2.size)
        clear k0 k1 k2 f0 f1 f2
        obtain ⟨k0, k1, k2, f0, f1, f2⟩ := E3.three
        go_wp2
        clear k0 k1 k2 f0 f1 f2
        have E9 := Box.set3 (.bool false) (.slice none 0 0) (.slice none 0 0) E3
        have T9 := turns3 w.heap.size w3 (.bool false) (.slice none 0 0) (.slice none 0 0)
        obtain ⟨r0, r1, r2, _, _, _⟩ := E9.three
        refine bodyPost_ret (v := .tuple #[.agg #[.bool false, .slice none 0 0, .slice none 0 0], .bool false]) (by simp [results, Tryd.f43, go_sem, r0, r1, r2]) rfl ?_
        exact ⟨hB3.trans T9.below, Or.inr ⟨_, _, _, _, _, _, _, rfl, HNO.out⟩⟩
      · have hb1 : (val t == 1) = false := beq_eq_false_iff_ne.2 h1
        rw [hb1] at hone
        have HT : Hid (textZ bl (val z) (val t) = octs s) := text_two HSG.out HOF.out h1 htwo
        obtain ⟨k0, k1, k2, f0, f1, f2⟩ := E2.three
        go_wp2_with fail
        refine hone.mono ?_
        rintro e w3 ⟨rfl, hb3⟩
        have E3 := E2.below hb3
        have hB3 := hB2.trans (hb3.mono hB2.size)
        have S3 := (S.below hb3).mono hq.size
        have T3 := (T.below hb3).mono hq.size
        have nz := n
        have nt := nT
        have c0 := (hb3.cell (p := ⟨g, 0, none⟩) hgw).trans hx1
        have c1 := (hb3.cell (p := ⟨g, 1, none⟩) hgw).trans hx2
        clear k0 k1 k2 f0 f1 f2 E2 hone hb1 hrow hx1 hx2 hO hlast htwo S T g1 g2
        have hgw3 := Nat.lt_of_lt_of_le hgw hb3.size
        have c2 := ((below_new w3 (.cells #[.bool false, .slice none 0 0, .slice none 0 0] 31)).cell (p := ⟨g, 0, none⟩) hgw3).trans c0
        have c3 := ((below_new w3 (.cells #[.bool false, .slice none 0 0, .slice none 0 0] 31)).cell (p := ⟨g, 1, none⟩) hgw3).trans c1
        go_wp2
        go_region
        have EV := E3.below (below_new w3 (.cells #[.bool bl, .slice a z.length c, .slice b t.length d] 31))
        have hBV := hB3.trans ((below_new w3 (.cells #[.bool bl, .slice a z.length c, .slice b t.length d] 31)).mono hB3.size)
        have SV := S3.below (below_new w3 (.cells #[.bool bl, .slice a z.length c, .slice b t.length d] 31))
        have TV := T3.below (below_new w3 (.cells #[.bool bl, .slice a z.length c, .slice b t.length d] 31))
        have ER : Box (w3.alloc (.cells #[.bool bl, .slice a z.length c, .slice b t.length d] 31)) w3.heap.size (.cells #[.bool bl, .slice a z.length c, .slice b t.length d] 31) := Box.put _ rfl
        have hmn : w3.heap.size ≠ w.heap.size := by have := E3.lt; omega
        obtain ⟨m, hm⟩ : ∃ m, w3.heap.size = m := ⟨_, rfl⟩
        rw [hm] at ER hmn ⊢
        replace EV := EV.drew
        replace ER := ER.drew
        replace SV := SV.drew
        replace TV := TV.drew
        replace hBV := hBV.drew
        obtain ⟨V, hV⟩ : ∃ V, (w3.alloc (.cells #[.bool bl, .slice a z.length c, .slice b t.length d] 31)).drew = V := ⟨_, rfl⟩
        rw [hV] at EV ER SV TV hBV ⊢
        obtain ⟨f, hf⟩ : ∃ f, formR bl z t = f := ⟨_, rfl⟩
        have hck := fun (W : World) (hW : Below V.heap.size V W) => pcheck_any bl (FR2 (SV.below hW) (TV.below hW)) hzl htl
        rw [hf] at hck
        have HF := hide hf
        have hkeep : ∀ W : World, Below V.heap.size V W → (W.cell? ⟨m, 0, none⟩ = some (.bool bl) ∧ W.cell? ⟨m, 1, none⟩ = some (.slice a z.length c) ∧ W.cell? ⟨m, 2, none⟩ = some (.slice b t.length d)) := fun W hW => by
          obtain ⟨x0, x1, x2, _, _, _⟩ := (ER.below hW).three
          exact ⟨x0, x1, x2⟩
        clear hV hf hm S3 T3 E3 c0 c1 c2 c3 hb3 hB3
        obtain ⟨k0, k1, k2, f0, f1, f2⟩ := EV.three
        obtain ⟨j0, j1, j2, _, _, _⟩ := ER.three
        go_wp2_with fail
        go_region_held3 (fun W => W.cell? ⟨m, 0, none⟩ = some (.bool bl) ∧ W.cell? ⟨m, 1, none⟩ = some (.slice a z.length c) ∧ W.cell? ⟨m, 2, none⟩ = some (.slice b t.length d))
          (first | exact hkeep _ ⟨rfl, rfl, rfl, Nat.le_refl _, fun _ _ => rfl⟩ | exact hk1.out | exact hk2.out)
          (first
          | (go_at_call 22
             refine (hck _ ?_).mono ?_
             exact ⟨rfl, rfl, rfl, Nat.le_refl _, fun _ _ => rfl⟩
             rintro e w4 ⟨rfl, hb4⟩
             have hb4' : Below V.heap.size V w4 := ⟨hb4.1, hb4.2, hb4.3, hb4.4, hb4.5⟩
             have hk1 := hide (hkeep w4 hb4')
             have E4 := EV.below hb4'
             have hk2 : Hid ((((w4.setCell ⟨w.heap.size, 0, none⟩ (.bool bl)).setCell ⟨w.heap.size, 1, none⟩ (.slice a z.length c)).setCell ⟨w.heap.size, 2, none⟩ (.slice b t.length d)).cell? ⟨m, 0, none⟩ = some (.bool bl) ∧ (((w4.setCell ⟨w.heap.size, 0, none⟩ (.bool bl)).setCell ⟨w.heap.size, 1, none⟩ (.slice a z.length c)).setCell ⟨w.heap.size, 2, none⟩ (.slice b t.length d)).cell? ⟨m, 1, none⟩ = some (.slice a z.length c) ∧ (((w4.setCell ⟨w.heap.size, 0, none⟩ (.bool bl)).setCell ⟨w.heap.size, 1, none⟩ (.slice a z.length c)).setCell ⟨w.heap.size, 2, none⟩ (.slice b t.length d)).cell? ⟨m, 2, none⟩ = some (.slice b t.length d)) := by
               have q := ((ER.below hb4').turns (turns3 w.heap.size w4 (.bool bl) (.slice a z.length c) (.slice b t.length d)) hmn).three
               exact ⟨q.1, q.2.1, q.2.2.1⟩
             obtain ⟨r0, r1, r2, g0, g1, g2⟩ := E4.three
             clear hb4))
        all_goals
          have hB4 := hBV.trans (hb4'.mono hBV.size)
          have E5 := Box.set3 (.bool bl) (.slice a z.length c) (.slice b t.length d) E4
          have T9 := turns3 w.heap.size w4 (.bool bl) (.slice a z.length c) (.slice b t.length d)
          have S5 := (SV.below hb4').beside E4 (noWord3 (fun _ e => by cases e) (fun _ e => by cases e) (fun _ e => by cases e)) T9
          have T5 := (TV.below hb4').beside E4 (noWord3 (fun _ e => by cases e) (fun _ e => by cases e) (fun _ e => by cases e)) T9
          have HS5 := hide S5
          have HT5 := hide T5
          have HB5 := hide (hB4.trans T9.below)
          have HL : Hid ((f == 0) = true → LowL bl z t) := fun h => (formR_low S5.words T5.words).1 (HF.out.trans (beq_iff_eq.1 h))
          have HN : Hid ((f == 0) = false → NoText (octs s)) := fun h => no_form S5.words T5.words nz nt HT.out (by rw [HF.out]; exact beq_eq_false_iff_ne.1 h)
          obtain ⟨y0, y1, y2, _, _, _⟩ := E5.three
          clear S5 T5 k0 k1 k2 f0 f1 f2 j0 j1 j2 r0 r1 r2 g0 g1 g2 hk1 hk2 E5 T9 hck hkeep
          obtain ⟨ok, hok⟩ : ∃ o, (f == 0) = o := ⟨_, rfl⟩
          rw [hok] at HL HN ⊢
          clear hok
          go_wp2
          refine bodyPost_ret (v := .tuple #[.agg #[.bool bl, .slice a z.length c, .slice b t.length d], .bool ok]) (by simp [results, Tryd.f43, go_sem, y0, y1, y2]) rfl ?_
          cases ok with
          | true => exact ⟨HB5.out, Or.inl ⟨_, _, _, _, _, _, _, rfl, FR2 HS5.out HT5.out, A, HL.out rfl, HT.out, hzl, htl⟩⟩
          | false => exact ⟨HB5.out, Or.inr ⟨_, _, _, _, _, _, _, rfl, HN.out rfl⟩⟩
def ReddSaid (bs : List Int) (w : World) (e : Ending) (w' : World) : Prop :=
  ∃ (b : Bool) (a : Option Addr) (ca : Nat) (xs : List Int) (c : Option Addr) (cc : Nat) (ds : List Int) (er p : Int), e = .returned (.tuple #[.agg #[.bool b, .slice a xs.length ca, .slice c ds.length cc], .agg #[.int .i64 er, .int .i64 p]]) ∧ Fr w.heap.size w' a ca xs c cc ds ∧ Apart a c xs ds ∧ ReadIs bs b xs ds er p ∧ xs.length ≤ 1000 ∧ ds.length ≤ 1000 ∧ Below w.heap.size w w'
set_option maxRecDepth 100000 in
set_option maxHeartbeats 4000000 in
theorem read_any (s : ByteArray) (w : World) (hl : s.size ≤ 1000 ∨ 10000 < s.size) : Calls Tryd.prog 24 #[.string s] w fun e w' => ReddSaid (octs s) w e w' := by
  have HLEN := hide (octs_len s)
  by_cases h1 : 10000 < s.size
  · have h2 : (10000 : Int) < (s.size : Int) := by omega
    have HR : Hid (ReadIs (octs s) false [] [] 4 10000) := .long (by rw [HLEN.out]; exact h1)
    have hB : Below w.heap.size w ((w.alloc (.cells #[.bool false, .slice none 0 0, .slice none 0 0] 31)).alloc (.cells #[.int .i64 4, .int .i64 10000] 48)) := ((Below.refl _ _).alloc (Nat.le_refl _) _).alloc (by simp) _
    clear hl
    go_enter Tryd.func24, Tryd.ntmps24
    go_wp2
    refine bodyPost_ret (v := .tuple #[.agg #[.bool false, .slice none 0 0, .slice none 0 0], .agg #[.int .i64 4, .int .i64 10000]]) (by simp [results, Tryd.f24, go_sem]) rfl ?_
    exact ⟨false, none, 0, [], none, 0, [], 4, 10000, rfl, ⟨Seg.nil _ _, Seg.nil _ _⟩, fun h => absurd rfl h, HR.out, by simp, by simp, hB⟩
  · have h2 : ¬ (10000 : Int) < (s.size : Int) := by omega
    have hB : Below w.heap.size w ((w.alloc (.cells #[.bool false, .slice none 0 0, .slice none 0 0] 31)).alloc (.cells #[.int .i64 0, .int .i64 0] 48)) := ((Below.refl _ _).alloc (Nat.le_refl _) _).alloc (by simp) _
    have ER : Box ((w.alloc (.cells #[.bool false, .slice none 0 0, .slice none 0 0] 31)).alloc (.cells #[.int .i64 0, .int .i64 0] 48)) w.heap.size (.cells #[.bool false, .slice none 0 0, .slice none 0 0] 31) := (Box.put _ rfl).below (below_new _ _)
    have EF : Box ((w.alloc (.cells #[.bool false, .slice none 0 0, .slice none 0 0] 31)).alloc (.cells #[.int .i64 0, .int .i64 0] 48)) (w.heap.size + 1) (.cells #[.int .i64 0, .int .i64 0] 48) := Box.put _ (by simp)
    have hfr := fraction_any s ((w.alloc (.cells #[.bool false, .slice none 0 0, .slice none 0 0] 31)).alloc (.cells #[.int .i64 0, .int .i64 0] 48)) (by omega)
    have HL1 : Hid ((octs s).length ≤ 10000) := by rw [Hid, HLEN.out]; omega
    clear hl h1
    go_enter Tryd.func24, Tryd.ntmps24
    go_wp2_with fail
    refine hfr.mono ?_
    rintro e w1 ⟨hb1, ⟨b, a, ca, xs, c, cc, ds, rfl, FA, hap, low, ht, lx, ld⟩ | ⟨b, a, n, ca, c, m, cc, rfl, hno⟩⟩
    · have hB1 := hB.trans (hb1.mono hB.size)
      have HR : Hid (ReadIs (octs s) b xs ds 0 0) := .ok low ht HL1.out
      have HA := hide hap
      have ER1 := (ER.below hb1).below (below_new w1 (.cells #[.bool b, .slice a xs.length ca, .slice c ds.length cc] 31))
      have EF1 := (EF.below hb1).below (below_new w1 (.cells #[.bool b, .slice a xs.length ca, .slice c ds.length cc] 31))
      have EL : Box (w1.alloc (.cells #[.bool b, .slice a xs.length ca, .slice c ds.length cc] 31)) w1.heap.size (.cells #[.bool b, .slice a xs.length ca, .slice c ds.length cc] 31) := Box.put _ rfl
      have FA1 := FA.below (below_new w1 (.cells #[.bool b, .slice a xs.length ca, .slice c ds.length cc] 31))
      have hB2 := hB1.trans ((below_new w1 (.cells #[.bool b, .slice a xs.length ca, .slice c ds.length cc] 31)).mono hB1.size)
      obtain ⟨k0, k1, k2, f0, f1, f2⟩ := ER1.three
      obtain ⟨j0, j1, g0, g1⟩ := EF1.two
      obtain ⟨i0, i1, i2, _, _, _⟩ := EL.three
      have E5 := Box.set3 (.bool b) (.slice a xs.length ca) (.slice c ds.length cc) ER1
      have T5 := turns3 w.heap.size (w1.alloc (.cells #[.bool b, .slice a xs.length ca, .slice c ds.length cc] 31)) (.bool b) (.slice a xs.length ca) (.slice c ds.length cc)
      have F5 := FA1.beside ER1 (noWord3 (fun _ e => by cases e) (fun _ e => by cases e) (fun _ e => by cases e)) T5
      have EF5 := EF1.turns T5 (by omega)
      have HB5 := hB2.trans T5.below
      have HF5 := hide F5
      have HBB := hide HB5
      have HE5 := hide E5
      have HE6 := hide EF5
      clear hfr low ht hap hb1 ER EF FA F5 HB5 E5 EF5 T5 EL FA1
      go_wp2
      clear k0 k1 k2 f0 f1 f2 j0 j1 g0 g1 i0 i1 i2
      obtain ⟨X, hX⟩ : ∃ X, (((w1.alloc (.cells #[.bool b, .slice a xs.length ca, .slice c ds.length cc] 31)).setCell ⟨w.heap.size, 0, none⟩ (.bool b)).setCell ⟨w.heap.size, 1, none⟩ (.slice a xs.length ca)).setCell ⟨w.heap.size, 2, none⟩ (.slice c ds.length cc) = X := ⟨_, rfl⟩
      rw [hX] at HF5 HBB HE5 HE6 ⊢
      have T6 := turns2 (w.heap.size + 1) X (.int .i64 0) (.int .i64 0)
      obtain ⟨r0, r1, r2, _, _, _⟩ := (HE5.out.turns T6 (by omega)).three
      obtain ⟨q0, q1, _, _⟩ := (Box.set2 (.int .i64 0) (.int .i64 0) HE6.out).two
      have F6 := HF5.out.beside HE6.out (noWord2 (fun _ e => by cases e) (fun _ e => by cases e)) T6
      have B6 := HBB.out.trans (T6.below.mono (by omega))
      refine bodyPost_ret (v := .tuple #[.agg #[.bool b, .slice a xs.length ca, .slice c ds.length cc], .agg #[.int .i64 0, .int .i64 0]]) (by simp [results, Tryd.f24, go_sem, r0, r1, r2, q0, q1]) rfl ?_
      exact ⟨b, a, ca, xs, c, cc, ds, 0, 0, rfl, F6.mono (by simp; omega), HA.out, HR.out, lx, ld, B6⟩
    · have hB1 := hB.trans (hb1.mono hB.size)
      have HR : Hid (ReadIs (octs s) false [] [] 6 0) := .bad HL1.out hno
      have ER1 := (ER.below hb1).below (below_new w1 (.cells #[.bool b, .slice a n ca, .slice c m cc] 31))
      have EF1 := (EF.below hb1).below (below_new w1 (.cells #[.bool b, .slice a n ca, .slice c m cc] 31))
      have hB2 := hB1.trans ((below_new w1 (.cells #[.bool b, .slice a n ca, .slice c m cc] 31)).mono hB1.size)
      obtain ⟨k0, k1, k2, f0, f1, f2⟩ := ER1.three
      obtain ⟨j0, j1, g0, g1⟩ := EF1.two
      have E5 := Box.set3 (.bool false) (.slice none 0 0) (.slice none 0 0) ER1
      have T5 := turns3 w.heap.size (w1.alloc (.cells #[.bool b, .slice a n ca, .slice c m cc] 31)) (.bool false) (.slice none 0 0) (.slice none 0 0)
      have EF5 := EF1.turns T5 (by omega)
      have HB5 := hB2.trans T5.below
      have HBB := hide HB5
      have HE5 := hide E5
      have HE6 := hide EF5
      clear hfr hno hb1 ER EF HB5 E5 EF5 T5
      go_wp2
      clear k0 k1 k2 f0 f1 f2 j0 j1 g0 g1
      obtain ⟨X, hX⟩ : ∃ X, (((w1.alloc (.cells #[.bool b, .slice a n ca, .slice c m cc] 31)).setCell ⟨w.heap.size, 0, none⟩ (.bool false)).setCell ⟨w.heap.size, 1, none⟩ (.slice none 0 0)).setCell ⟨w.heap.size, 2, none⟩ (.slice none 0 0) = X := ⟨_, rfl⟩
      rw [hX] at HBB HE5 HE6 ⊢
      have T6 := turns2 (w.heap.size + 1) X (.int .i64 6) (.int .i64 0)
      obtain ⟨r0, r1, r2, _, _, _⟩ := (HE5.out.turns T6 (by omega)).three
      obtain ⟨q0, q1, _, _⟩ := (Box.set2 (.int .i64 6) (.int .i64 0) HE6.out).two
      have B6 := HBB.out.trans (T6.below.mono (by omega))
      refine bodyPost_ret (v := .tuple #[.agg #[.bool false, .slice none 0 0, .slice none 0 0], .agg #[.int .i64 6, .int .i64 0]]) (by simp [results, Tryd.f24, go_sem, r0, r1, r2, q0, q1]) rfl ?_
      exact ⟨false, none, 0, [], none, 0, [], 6, 0, rfl, ⟨Seg.nil _ _, Seg.nil _ _⟩, fun h => absurd rfl h, HR.out, by simp, by simp, B6⟩
set_option maxRecDepth 100000 in
set_option maxHeartbeats 4000000 in
theorem gets_core {lo : Nat} {a : Option Addr} {cap : Nat} {zs : List Int} (s : ByteArray) (e p : Int) {w : World} (h : Seg lo w (.slice a zs.length cap) zs) (hl : s.size ≤ 1000) (hz : zs.length ≤ 1000) (hg : ∀ (ys : List Int) (er q : Int), Words ys → GetIs (getP (octs s)) ys er q → ys = zs ∧ er = e ∧ q = p) :
    Calls Tryd.prog 10 #[.string s, .slice a zs.length cap, .int .i64 e, .int .i64 p] w fun e w' => e = .returned (.bool true) ∧ Below w.heap.size w w' := by
  have hget := get_any s w (Or.inl hl)
  have HG := hide hg
  obtain ⟨n, hN⟩ : ∃ n, zs.length = n := ⟨_, rfl⟩
  have HN := hide hN
  rw [hN] at h hz ⊢
  clear hg hN
  go_enter Tryd.func10, Tryd.ntmps10
  go_wp2_with fail
  refine hget.mono ?_
  rintro ee w1 ⟨a1, c1, ys, er, q, rfl, hs, hi, hle, hb⟩
  obtain ⟨rfl, rfl, rfl⟩ := HG.out ys er q hs.words hi
  have hq := below_new w1 (.cells #[.int .i64 er, .int .i64 q] 48)
  have E : Box (w1.alloc (.cells #[.int .i64 er, .int .i64 q] 48)) w1.heap.size (.cells #[.int .i64 er, .int .i64 q] 48) := Box.put _ rfl
  have h1 := h.below hb
  have h2 := h1.below hq
  have hs2 := hs.below hq
  rw [HN.out] at hs hs2
  obtain ⟨k0, k1, f0, f1⟩ := E.two
  have hsame := same_yes (xs := ys) (by rw [HN.out]; exact hs2) (by rw [HN.out]; exact h2) (by rw [HN.out]; omega)
  rw [HN.out] at hsame
  have HB := hide hb
  simp only [HN.out]
  clear hget hle hi hb
  go_wp2_with fail
  refine hsame.mono ?_
  rintro ee w2 ⟨rfl, hb2⟩
  replace E := E.below hb2
  clear k0 k1 f0 f1 hsame
  obtain ⟨k0, k1, f0, f1⟩ := E.two
  go_wp2
  go_ret
  exact ⟨rfl, HB.out.trans ((hq.trans (hb2.mono hq.size)).mono HB.out.size)⟩
theorem gets_ok {lo : Nat} {a : Option Addr} {cap : Nat} {zs : List Int} (s : ByteArray) {w : World} (h : Seg lo w (.slice a zs.length cap) zs) (hn : Norm zs) (hl : s.size ≤ 1000) (hz : zs.length ≤ 1000) (hg : getP (octs s) = .ok (val zs)) :
    Calls Tryd.prog 10 #[.string s, .slice a zs.length cap, .int .i64 0, .int .i64 0] w fun e w' => e = .returned (.bool true) ∧ Below w.heap.size w w' :=
  gets_core s 0 0 h hl hz fun ys er q hw hi => by
    rw [hg] at hi
    obtain ⟨hn2, hv⟩ := hi
    exact ⟨norm_unique hw h.words hn2 hn hv, rfl, rfl⟩
theorem gets_no (s : ByteArray) (e p : Int) {w : World} (hl : s.size ≤ 1000) (hg : getP (octs s) = .error (e, p)) :
    Calls Tryd.prog 10 #[.string s, .slice none 0 0, .int .i64 e, .int .i64 p] w fun e w' => e = .returned (.bool true) ∧ Below w.heap.size w w' :=
  gets_core (lo := 0) (zs := []) s e p (Seg.nil _ _) hl (Nat.zero_le _) fun ys er q hw hi => by
    rw [hg] at hi
    cases hi
    exact ⟨rfl, rfl, rfl⟩
theorem decI_of {bs : List Int} {v : Int} (ho : Octs bs) (h : getZ bs = .ok v) : decI v = bs := (dec_getZ ho h).2.1.symm
def big20 : List Int := [49, 56, 52, 52, 54, 55, 52, 52, 48, 55, 51, 55, 48, 57, 53, 53, 49, 54, 49, 54]
theorem big20_octs : Octs big20 := by unfold big20; intro z hz; simp at hz; omega
theorem big20_dec : decI 18446744073709551616 = big20 := decI_of big20_octs rfl
theorem seg_big {k : Nat} {w : World} (E : Box w k (.cells #[.int .u64 0, .int .u64 1] 40)) : Seg k w (.slice (some ⟨k, 0, none⟩) [0, 1].length 2) [0, 1] := by
  refine ⟨Words.cons (by decide) (Words.cons (by decide) Words.nil), _, _, rfl, Nat.le_refl _, fun _ => ⟨k, 0, rfl, Nat.le_refl _, E.lt, fun j hj => ?_, fun j _ => frozen_of_heap E.what _⟩⟩
  rw [cell_of_heap E.what]
  have hj' : j < 2 := hj
  rcases (by omega : j = 0 ∨ j = 1) with rfl | rfl <;> rfl
set_option maxRecDepth 100000 in
set_option maxHeartbeats 4000000 in
theorem dawake_any (w : World) : Calls Tryd.prog 14 #[] w fun e w' => e = .returned (.bool true) ∧ Below w.heap.size w w' := by
  have q1 : Below w.heap.size w (w.alloc (.cells #[.int .u64 0, .int .u64 1] 40)) := (Below.refl _ _).alloc (Nat.le_refl _) _
  have E1 : Box (w.alloc (.cells #[.int .u64 0, .int .u64 1] 40)) w.heap.size (.cells #[.int .u64 0, .int .u64 1] 40) := Box.put _ rfl
  have hput := put_any (seg_big E1) (by simp)
  rw [show val [0, 1] = 18446744073709551616 by decide, big20_dec] at hput
  have ht : (strOfNums big20).toList = [49, 56, 52, 52, 54, 55, 52, 52, 48, 55, 51, 55, 48, 57, 53, 53, 49, 54, 49, 54] := by
    rw [strOfNums_toList]
    rfl
  obtain ⟨S, hS⟩ : ∃ S, strOfNums big20 = S := ⟨_, rfl⟩
  rw [hS] at hput ht
  go_enter Tryd.func14, Tryd.ntmps14
  go_wp2_with fail
  refine hput.mono ?_
  rintro e w1 ⟨rfl, hb1⟩
  have hB1 := q1.trans (hb1.mono q1.size)
  have q2 : Below w1.heap.size w1 (w1.alloc (.cells #[.int .u64 0, .int .u64 1] 40)) := (Below.refl _ _).alloc (Nat.le_refl _) _
  have E2 : Box (w1.alloc (.cells #[.int .u64 0, .int .u64 1] 40)) w1.heap.size (.cells #[.int .u64 0, .int .u64 1] 40) := Box.put _ rfl
  have hg1 := gets_ok (ByteArray.mk #[49, 56, 52, 52, 54, 55, 52, 52, 48, 55, 51, 55, 48, 57, 53, 53, 49, 54, 49, 54]) (seg_big E2) (Or.inr (by decide)) (by decide) (by simp) rfl
  have hB2 := hB1.trans (q2.mono hB1.size)
  clear hput
  go_wp2_with fail
  refine hg1.mono ?_
  rintro e w2 ⟨rfl, hb2⟩
  have hB3 := hB2.trans (hb2.mono hB2.size)
  have hg2 := gets_no (ByteArray.mk #[48, 48, 55]) 6 1 (w := w2) (by decide) rfl
  clear hg1
  go_wp2_with fail
  refine hg2.mono ?_
  rintro e w3 ⟨rfl, hb3⟩
  go_wp2
  go_ret
  exact ⟨rfl, hB3.trans (hb3.mono hB3.size)⟩
def undigI (bs : List Int) (i : Nat) : Int := ((undig 256 ((bs.take i).map Int.toNat) : Nat) : Int)
theorem undigI_zero (bs : List Int) : undigI bs 0 = 0 := rfl
theorem undigI_succ {bs : List Int} (ho : Octs bs) {i : Nat} (hi : i < bs.length) : undigI bs (i + 1) = 256 * undigI bs i + bs[i]?.getD 0 := by
  have h0 := (ho.getD i).1
  have e : bs.take (i + 1) = bs.take i ++ [bs[i]?.getD 0] := by
    rw [List.take_add_one, List.getElem?_eq_getElem hi]
    rfl
  unfold undigI
  rw [e, List.map_append, List.map_cons, List.map_nil, undig_snoc]
  omega
theorem or_byte (z x c : Int) (r : Nat) (hr : r < 8) (hz : 0 ≤ z ∧ z < 18446744073709551616) (hx : 0 ≤ x ∧ x < 256) (e : z = 2 ^ (8 * (r + 1)) * c) :
    bits .or .u64 z (IntKind.u64.wrap (x * 2 ^ (8 * r))) = z + x * 2 ^ (8 * r) ∧ 0 ≤ z + x * 2 ^ (8 * r) ∧ z + x * 2 ^ (8 * r) < 18446744073709551616 := by
  have hp := two_pos (8 * (r + 1))
  have hc0 : 0 ≤ c := Classical.byContradiction fun h => by
    have : (2 : Int) ^ (8 * (r + 1)) * (c + 1) ≤ 2 ^ (8 * (r + 1)) * 0 := Int.mul_le_mul_of_nonneg_left (by omega) (by omega)
    rw [Int.mul_add, ← e] at this
    omega
  obtain ⟨n, rfl⟩ := Int.eq_ofNat_of_zero_le hz.1
  obtain ⟨m, rfl⟩ := Int.eq_ofNat_of_zero_le hc0
  obtain ⟨k, rfl⟩ := Int.eq_ofNat_of_zero_le hx.1
  have h2 : ((2 : Int) ^ (8 * r)) = ((2 ^ (8 * r) : Nat) : Int) := by simp
  have h3 : ((2 : Int) ^ (8 * (r + 1))) = ((2 ^ (8 * (r + 1)) : Nat) : Int) := by simp
  have en : n = m * 2 ^ (8 * (r + 1)) := by rw [h3, ← Int.natCast_mul] at e; rw [Nat.mul_comm]; omega
  have es : 2 ^ (8 * (r + 1)) = 256 * 2 ^ (8 * r) := by rw [show 8 * (r + 1) = 8 * r + 8 by omega, Nat.pow_add, Nat.mul_comm]
  have et : 2 ^ (64 - 8 * (r + 1)) * 2 ^ (8 * (r + 1)) = 18446744073709551616 := by rw [← Nat.pow_add, show 64 - 8 * (r + 1) + 8 * (r + 1) = 64 by omega]
  have hm : m < 2 ^ (64 - 8 * (r + 1)) := Classical.byContradiction fun h => by
    have : 2 ^ (64 - 8 * (r + 1)) * 2 ^ (8 * (r + 1)) ≤ m * 2 ^ (8 * (r + 1)) := Nat.mul_le_mul_right _ (by omega)
    omega
  have h4 : (m + 1) * 2 ^ (8 * (r + 1)) ≤ 2 ^ (64 - 8 * (r + 1)) * 2 ^ (8 * (r + 1)) := Nat.mul_le_mul_right _ hm
  rw [Nat.add_mul, et, Nat.one_mul, ← en] at h4
  have hk : k * 2 ^ (8 * r) < 2 ^ (8 * (r + 1)) := by
    rw [es]
    exact Nat.mul_lt_mul_of_pos_right (by omega) (Nat.pow_pos (by omega))
  have e5 : ((k : Int) * ((2 ^ (8 * r) : Nat) : Int)) = ((k * 2 ^ (8 * r) : Nat) : Int) := by simp
  rw [h2, e5]
  have hw : IntKind.u64.wrap ((k * 2 ^ (8 * r) : Nat) : Int) = ((k * 2 ^ (8 * r) : Nat) : Int) := by rw [IntKind.wrap_u64]; omega
  have ho := or_low (k * 2 ^ (8 * r)) m (8 * (r + 1)) hk
  rw [← en, Nat.or_comm] at ho
  rw [hw, bits_or_u64_nat n (k * 2 ^ (8 * r)) (by omega) (by omega), ho]
  exact ⟨by omega, by omega, by omega⟩
theorem word_noughts {zs : List Int} (hw : Words zs) {q r : Nat} (hr : r < 8) (U : Int) (e : val zs = 2 ^ (8 * (8 * q + r + 1)) * U) : ∃ c, zs[q]?.getD 0 = 2 ^ (8 * (r + 1)) * c := by
  have h1 := val_drop_div hw q
  have h2 := val_drop zs q
  have e2 : (2 : Int) ^ (8 * (8 * q + r + 1)) = pw q * 2 ^ (8 * (r + 1)) := by rw [pw_bits, show 64 * q + 8 * (r + 1) = 8 * (8 * q + r + 1) by omega]
  rw [e, e2, Int.mul_assoc, Int.mul_ediv_cancel_left _ (by have := pw_pos q; omega)] at h1
  have e3 := two_split (8 * (r + 1)) (by omega)
  refine ⟨U - 2 ^ (64 - 8 * (r + 1)) * val (zs.drop (q + 1)), ?_⟩
  rw [Int.mul_sub, ← h1, h2, ← Int.mul_assoc, Int.mul_comm (2 ^ (8 * (r + 1))) (2 ^ (64 - 8 * (r + 1))), e3]
  omega
theorem from_step {zs : List Int} (hw : Words zs) {q r : Nat} (hr : r < 8) (hq : q < zs.length) {U x : Int} (hx : 0 ≤ x ∧ x < 256) (e : val zs = 2 ^ (8 * (8 * q + r + 1)) * U) :
    ∃ y, bits .or .u64 (zs[q]?.getD 0) (IntKind.u64.wrap (x * 2 ^ (8 * r))) = y ∧ (0 ≤ y ∧ y < 18446744073709551616) ∧ val (zs.set q y) = 2 ^ (8 * (8 * q + r)) * (256 * U + x) := by
  obtain ⟨c, hc⟩ := word_noughts hw hr U e
  obtain ⟨h1, h2, h3⟩ := or_byte _ x c r hr (hw.getD q) hx hc
  refine ⟨_, h1, ⟨h2, h3⟩, ?_⟩
  rw [val_set hq, e]
  have e2 : (2 : Int) ^ (8 * (8 * q + r)) = pw q * 2 ^ (8 * r) := by rw [pw_bits, show 64 * q + 8 * r = 8 * (8 * q + r) by omega]
  have e3 : (2 : Int) ^ (8 * (8 * q + r + 1)) = 2 ^ (8 * (8 * q + r)) * 256 := by rw [show 8 * (8 * q + r + 1) = 8 * (8 * q + r) + 8 by omega, Int.pow_add]; rfl
  rw [show zs[q]?.getD 0 + x * 2 ^ (8 * r) - zs[q]?.getD 0 = x * 2 ^ (8 * r) by omega, e3, Int.mul_add, Int.mul_assoc, e2, Int.mul_comm x, Int.mul_assoc, Int.mul_assoc]
theorem undigI_low {bs : List Int} (ho : Octs bs) (h0 : bs[0]?.getD 0 ≠ 0) : ∀ i, i + 1 ≤ bs.length → (2 : Int) ^ (8 * i) ≤ undigI bs (i + 1)
  | 0, h => by
    rw [undigI_succ ho (by omega), undigI_zero]
    have := (ho.getD 0).1
    simp
    omega
  | i + 1, h => by
    have ih := undigI_low ho h0 i (by omega)
    rw [undigI_succ ho (by omega), show 8 * (i + 1) = 8 * i + 8 by omega, Int.pow_add]
    have := (ho.getD (i + 1)).1
    have e : (2 : Int) ^ 8 = 256 := rfl
    rw [e]
    omega
theorem norm_from {bs zs : List Int} (ho : Octs bs) (h0 : bs ≠ [] → bs[0]?.getD 0 ≠ 0) (hw : Words zs) (hl : zs.length = (bs.length + 7) / 8) (e : val zs = undigI bs bs.length) : Norm zs := by
  refine norm_of_val hw fun hz => ?_
  have hzl := List.length_pos_iff.2 hz
  have hb : bs ≠ [] := by intro h; rw [h, List.length_nil] at hl; omega
  obtain ⟨n, hn⟩ : ∃ n, bs.length = n + 1 := ⟨bs.length - 1, by have := List.length_pos_iff.2 hb; omega⟩
  have h1 := undigI_low ho (h0 hb) n (by omega)
  rw [e, hn]
  refine Int.le_trans ?_ h1
  have h2 := pw_bits (zs.length - 1) 0
  rw [Int.pow_zero, Int.mul_one, Nat.add_zero] at h2
  rw [h2, show 8 * n = 64 * (zs.length - 1) + (8 * n - 64 * (zs.length - 1)) by omega, Int.pow_add]
  have := two_pos (8 * n - 64 * (zs.length - 1))
  have p := two_pos (64 * (zs.length - 1))
  have : (2 : Int) ^ (64 * (zs.length - 1)) * 1 ≤ 2 ^ (64 * (zs.length - 1)) * 2 ^ (8 * n - 64 * (zs.length - 1)) := Int.mul_le_mul_of_nonneg_left (by omega) (by omega)
  omega
set_option maxRecDepth 100000 in
set_option maxHeartbeats 4000000 in
theorem from_no {lo : Nat} {a : Option Addr} {cap : Nat} {bs : List Int} {w : World} (h : Byt lo w (.slice a bs.length cap) bs) (hl : bs.length ≤ 1000) (h0 : bs ≠ []) (h1 : bs[0]?.getD 0 = 0) :
    Calls Tryd.prog 6 #[.slice a bs.length cap] w fun e w' => e = .returned (.tuple #[.slice none 0 0, .int .i64 6]) ∧ w' = w := by
  have hpos := List.length_pos_iff.2 h0
  obtain ⟨b, off, rfl, _, _⟩ := h.row hpos
  obtain ⟨hc, hf⟩ := h.cell (j := 0) hpos
  rw [h1, Nat.add_zero] at hc
  obtain ⟨L, hL⟩ : ∃ n, bs.length = n := ⟨_, rfl⟩
  rw [hL] at h hl hpos ⊢
  have g1 : ¬ (10000 : Int) < (L : Int) := by omega
  have g2 : (0 : Int) < (L : Int) := by omega
  clear hf
  go_enter Tryd.func6, Tryd.ntmps6
  go_wp2
  refine bodyPost_ret (v := .tuple #[.slice none 0 0, .int .i64 6]) (by simp [results, Tryd.f6, go_sem]) rfl ?_
  exact ⟨rfl, rfl⟩
set_option maxRecDepth 100000 in
set_option maxHeartbeats 4000000 in
theorem from_any {lo : Nat} {a : Option Addr} {cap : Nat} {bs : List Int} {w : World} (h : Byt lo w (.slice a bs.length cap) bs) (hl : bs.length ≤ 1000) (h0 : bs ≠ [] → bs[0]?.getD 0 ≠ 0) :
    Calls Tryd.prog 6 #[.slice a bs.length cap] w fun e w' => ∃ (a' : Option Addr) (cap' : Nat) (zs : List Int), e = .returned (.tuple #[.slice a' zs.length cap', .int .i64 0]) ∧ Seg w.heap.size w' (.slice a' zs.length cap') zs ∧ Norm zs ∧ val zs = undigI bs bs.length ∧ zs.length = (bs.length + 7) / 8 ∧ Below w.heap.size w w' := by
  obtain ⟨L, hL⟩ : ∃ n, bs.length = n := ⟨_, rfl⟩
  have HL := hide hL
  have HO := hide h.words
  have H0 := hide h0
  have hcase : L = 0 ∨ (0 < L ∧ ∃ (b off : Nat) (x0 : Int), a = some ⟨b, off, none⟩ ∧ x0 ≠ 0 ∧ w.cell? ⟨b, off, none⟩ = some (.int .u8 x0)) := by
    rcases Nat.eq_zero_or_pos L with e | e
    · exact Or.inl e
    · right
      obtain ⟨b, off, ea, _, _⟩ := h.row (by omega)
      subst ea
      obtain ⟨hc, _⟩ := h.cell (j := 0) (by omega)
      exact ⟨e, b, off, _, rfl, h0 (List.length_pos_iff.1 (by omega)), hc⟩
  rw [hL] at h hl ⊢
  obtain ⟨W, hW⟩ : ∃ n, (L + 7) / 8 = n := ⟨_, rfl⟩
  have g1 : ¬ (10000 : Int) < (L : Int) := by omega
  have g2 : IntKind.i64.wrap ((L : Int) + 8) = (L : Int) + 8 := by rw [IntKind.wrap_i64]; omega
  have g3 : IntKind.i64.wrap ((L : Int) + 8 - 1) = (L : Int) + 7 := by rw [IntKind.wrap_i64]; omega
  have g4 : ((L : Int) + 7) / 8 = (W : Int) := by omega
  have g5 : IntKind.i64.wrap (W : Int) = (W : Int) := by rw [IntKind.wrap_i64]; omega
  have HW := hide hW
  rw [hW]
  obtain ⟨Z, hmk, hmz⟩ := make_any W (by omega)
  have hq1 : Below w.heap.size w (w.alloc Z) := (Below.refl _ _).alloc (Nat.le_refl _) _
  have HZ := hide (hmz w)
  clear hW hmz h0 hL
  go_enter Tryd.func6, Tryd.ntmps6
  rcases hcase with hc | ⟨hc, b, off, x0, rfl, hx0, hc0⟩
  · have gc : ¬ (0 : Int) < (L : Int) := by omega
    have HC0 := hide hc
    clear hc
    go_wp2
    go_loopw [28] (fun iv wr => ∃ (i : Nat) (zs : List Int), iv = .int .i64 i ∧ i ≤ L ∧ zs.length = W ∧ Seg w.heap.size wr (.slice (some ⟨w.heap.size, 0, none⟩) W W) zs ∧ Hid (val zs = 2 ^ (8 * (L - i)) * undigI bs i) ∧ Below w.heap.size w wr) (fun iv _ => L - (intOf iv).toNat)
    case atStart => exact ⟨0, _, rfl, Nat.zero_le _, List.length_replicate, HZ.out, by rw [Hid, val_zeros, undigI_zero, Int.mul_zero], hq1⟩
    case round =>
      clear HZ hq1 hmk gc
      obtain ⟨i, zs, rfl, hi, hzl, hz, HV, hB⟩ := hrel
      by_cases hlt : i < L
      · exact absurd hlt (by have := HC0.out; omega)
      · obtain rfl : i = L := by omega
        have hnl : ¬ (i : Int) < (i : Int) := by omega
        have hv : val zs = undigI bs bs.length := by
          have := HV.out
          rw [Nat.sub_self, Nat.mul_zero, Int.pow_zero, Int.one_mul] at this
          rw [this, HL.out]
        have hW : zs.length = (bs.length + 7) / 8 := by rw [hzl, HL.out]; exact HW.out.symm
        have HR : Hid (Norm zs ∧ val zs = undigI bs i) := ⟨norm_from HO.out H0.out hz.words hW hv, by rw [hv, HL.out]⟩
        have hwz : zs.length = W := hzl
        clear hv hW HV g2 g3 g4 g5 hzl
        go_wp2
        refine bodyPost_ret (v := .tuple #[.slice (some ⟨w.heap.size, 0, none⟩) W W, .int .i64 0]) (by simp [results, Tryd.f6, go_sem]) rfl ?_
        exact ⟨_, W, zs, by rw [hwz], by rw [hwz]; exact hz, HR.out.1, HR.out.2, hwz, hB⟩
  · have gc : (0 : Int) < (L : Int) := by omega
    go_wp2
    go_loopw [28] (fun iv wr => ∃ (i : Nat) (zs : List Int), iv = .int .i64 i ∧ i ≤ L ∧ zs.length = W ∧ Seg w.heap.size wr (.slice (some ⟨w.heap.size, 0, none⟩) W W) zs ∧ Hid (val zs = 2 ^ (8 * (L - i)) * undigI bs i) ∧ Below w.heap.size w wr) (fun iv _ => L - (intOf iv).toNat)
    case atStart => exact ⟨0, _, rfl, Nat.zero_le _, List.length_replicate, HZ.out, by rw [Hid, val_zeros, undigI_zero, Int.mul_zero], hq1⟩
    case round =>
      clear HZ hq1 hmk gc
      obtain ⟨i, zs, rfl, hi, hzl, hz, HV, hB⟩ := hrel
      by_cases hlt : i < L
      · obtain ⟨J, hJ⟩ : ∃ J, L - 1 - i = J := ⟨_, rfl⟩
        obtain ⟨q, hq⟩ : ∃ q, J / 8 = q := ⟨_, rfl⟩
        obtain ⟨r, hr⟩ : ∃ r, J % 8 = r := ⟨_, rfl⟩
        have hqW : q < W := by have := HW.out; omega
        have hr8 : r < 8 := by omega
        obtain ⟨x, hx⟩ : ∃ x, bs[i]?.getD 0 = x := ⟨_, rfl⟩
        have hxb := HO.out.getD i
        rw [hx] at hxb
        have e1 : val zs = 2 ^ (8 * (8 * q + r + 1)) * undigI bs i := by rw [HV.out, show L - i = 8 * q + r + 1 by omega]
        obtain ⟨y, hor, hyb, hvy⟩ := from_step hz.words hr8 (by omega) hxb e1
        obtain ⟨z, hzz⟩ : ∃ z, zs[q]?.getD 0 = z := ⟨_, rfl⟩
        rw [hzz] at hor
        have HN : Hid (val (zs.set q y) = 2 ^ (8 * (L - (i + 1))) * undigI bs (i + 1)) := by
          rw [Hid, hvy, undigI_succ HO.out (by have := HL.out; omega), hx, show L - (i + 1) = 8 * q + r by omega]
        obtain ⟨hcz, hfz⟩ := hz.drew.cell (j := q) hqW
        rw [hzz, Nat.zero_add] at hcz
        rw [Nat.zero_add] at hfz
        have h' := h.below hB
        obtain ⟨b', off', e', _, _⟩ := h'.row (by omega)
        first | subst e' | cases e'
        obtain ⟨hcx, _⟩ := h'.cell (j := i) hlt
        rw [hx] at hcx
        have HS := hide (hz.drew.set (k := q) (by omega) hyb)
        rw [Nat.zero_add] at HS
        have HBB := hide (hB.drew.setCell (p := ⟨w.heap.size, q, none⟩) (Nat.le_refl _) (.int .u64 y))
        have k1 : (i : Int) < (L : Int) := by omega
        have k2 : (0 : Int) ≤ (i : Int) := by omega
        have k3 : IntKind.i64.wrap ((L : Int) - 1) = (L : Int) - 1 := by rw [IntKind.wrap_i64]; omega
        have k4 : IntKind.i64.wrap ((L : Int) - 1 - (i : Int)) = (J : Int) := by rw [IntKind.wrap_i64]; omega
        have k5 : (J : Int) / 8 = (q : Int) := by omega
        have k6 : (J : Int) % 8 = (r : Int) := by omega
        have k7 : IntKind.i64.wrap ((r : Int) * 8) = 8 * (r : Int) := by rw [IntKind.wrap_i64]; omega
        have k8 : (0 : Int) ≤ 8 * (r : Int) := by omega
        have k9 : min (8 * (r : Int)).toNat 64 = 8 * r := by omega
        have k10 : (q : Int) < (W : Int) := by omega
        have k11 : IntKind.i64.wrap (q : Int) = (q : Int) := by rw [IntKind.wrap_i64]; omega
        have k12 : IntKind.i64.wrap ((i : Int) + 1) = (i : Int) + 1 := by rw [IntKind.wrap_i64]; omega
        have k13 : IntKind.u64.wrap x = x := by rw [IntKind.wrap_u64]; omega
        have HZL := hide hzl
        have HLT := hide hlt
        clear e1 hvy hyb hzz hx hxb hJ hq hr HV hz h' g2 g3 g4 g5 hzl hlt hB
        go_wp2_with fail
        go_region
        go_wp2
        exact ⟨⟨i + 1, zs.set q y, by simp, by have := HLT.out; omega, by rw [List.length_set]; exact HZL.out, HS.out, HN, HBB.out⟩, by have := HLT.out; simp [intOf]; omega⟩
      · obtain rfl : i = L := by omega
        have hnl : ¬ (i : Int) < (i : Int) := by omega
        have hv : val zs = undigI bs bs.length := by
          have := HV.out
          rw [Nat.sub_self, Nat.mul_zero, Int.pow_zero, Int.one_mul] at this
          rw [this, HL.out]
        have hW : zs.length = (bs.length + 7) / 8 := by rw [hzl, HL.out]; exact HW.out.symm
        have HR : Hid (Norm zs ∧ val zs = undigI bs i) := ⟨norm_from HO.out H0.out hz.words hW hv, by rw [hv, HL.out]⟩
        have hwz : zs.length = W := hzl
        clear hv hW HV g2 g3 g4 g5 hzl
        go_wp2
        refine bodyPost_ret (v := .tuple #[.slice (some ⟨w.heap.size, 0, none⟩) W W, .int .i64 0]) (by simp [results, Tryd.f6, go_sem]) rfl ?_
        exact ⟨_, W, zs, by rw [hwz], by rw [hwz]; exact hz, HR.out.1, HR.out.2, hwz, hB⟩
theorem box2_new (W : World) (o1 o2 : Obj) : Below W.heap.size W ((W.alloc o1).alloc o2) := ((Below.refl _ _).alloc (Nat.le_refl _) _).alloc (by simp) _
set_option maxRecDepth 100000 in
set_option maxHeartbeats 8000000 in
theorem none_ok (s : ByteArray) (w : World) (hl : s.size ≤ 1000) (hn : NoText (octs s)) :
    Calls Tryd.prog 16 #[.string s] w fun e w' => e = .returned (.bool true) ∧ Below w.heap.size w w' := by
  have hrd := read_any s w (Or.inl hl)
  have HI : Hid (ReadIs (octs s) false [] [] 6 0) := .bad (by rw [octs_len]; omega) hn
  clear hl hn
  go_enter Tryd.func16, Tryd.ntmps16
  go_wp2_with fail
  refine hrd.mono ?_
  rintro e w1 ⟨b, a, ca, xs, c, cc, ds, er, p, rfl, FA, _, hi, lx, ld, hb⟩
  obtain ⟨rfl, rfl, rfl, rfl, rfl⟩ := hi.unique HI.out FA.up.words FA.down.words Words.nil Words.nil
  simp only [List.length_nil] at FA ⊢
  have hq := box2_new w1 (.cells #[.bool false, .slice a 0 ca, .slice c 0 cc] 31) (.cells #[.int .i64 6, .int .i64 0] 48)
  have ER : Box ((w1.alloc (.cells #[.bool false, .slice a 0 ca, .slice c 0 cc] 31)).alloc (.cells #[.int .i64 6, .int .i64 0] 48)) w1.heap.size (.cells #[.bool false, .slice a 0 ca, .slice c 0 cc] 31) := (Box.put _ rfl).below (below_new _ _)
  have EF : Box ((w1.alloc (.cells #[.bool false, .slice a 0 ca, .slice c 0 cc] 31)).alloc (.cells #[.int .i64 6, .int .i64 0] 48)) (w1.heap.size + 1) (.cells #[.int .i64 6, .int .i64 0] 48) := Box.put _ (by simp)
  have FA1 := FA.below hq
  have hB := hb.trans (hq.mono hb.size)
  have hsm := samer_yes (b := false) (xs := []) (ds := []) FA1 (lo2 := 0) (p := none) (cp := 0) (r := none) (cr := 0) ⟨Seg.nil _ _, Seg.nil _ _⟩ (by simp) (by simp)
  simp only [List.length_nil] at hsm
  obtain ⟨k0, k1, k2, f0, f1, f2⟩ := ER.three
  obtain ⟨j0, j1, g0, g1⟩ := EF.two
  have HB := hide hB
  clear hrd hi lx ld hb ER EF FA FA1 hq hB
  go_wp2_with fail
  refine hsm.mono ?_
  rintro e w2 ⟨rfl, hb⟩
  clear k0 k1 k2 f0 f1 f2 j0 j1 g0 g1 hsm
  go_wp2
  go_ret
  exact ⟨rfl, HB.out.trans (hb.mono HB.out.size)⟩
set_option maxRecDepth 100000 in
set_option maxHeartbeats 8000000 in
theorem reads_ok (s : ByteArray) (x y : Int) (w : World) (hl : s.size ≤ 1000) (hx : -9223372036854775808 ≤ x ∧ x < 9223372036854775808) (hy : -9223372036854775808 ≤ y ∧ y < 9223372036854775808) (h0 : 0 < y) (b : Bool) (zs es : List Int) (wz : Words zs) (we : Words es) (low : LowL b zs es) (ht : textZ b (val zs) (val es) = octs s) (hv : sgn b (val zs) = x ∧ val es = y) :
    Calls Tryd.prog 15 #[.string s, .int .i64 x, .int .i64 y] w fun e w' => e = .returned (.bool true) ∧ Below w.heap.size w w' := by
  have hrd := read_any s w (Or.inl hl)
  have HI : Hid (ReadIs (octs s) b zs es 0 0) := .ok low ht (by rw [octs_len]; omega)
  have HP : Hid (∀ w, Calls Tryd.prog 7 #[.int .i64 x, .int .i64 y] w fun e w' => ∃ (b' : Bool) (a' : Option Addr) (ca' : Nat) (ts' : List Int) (c' : Option Addr) (cc' : Nat) (es' : List Int), e = .returned (.tuple #[.agg #[.bool b', .slice a' ts'.length ca', .slice c' es'.length cc'], .int .i64 0]) ∧ Fr w.heap.size w' a' ca' ts' c' cc' es' ∧ Apart a' c' ts' es' ∧ Is b' ts' es' (Rat.divInt x y) (1) ∧ Below w.heap.size w w') := fun w => ppair_pos x y hx hy h0 w
  have HQ : Hid (ratL b zs es = Rat.divInt x y) := by rw [Hid, ratL, hv.1, hv.2]
  have HWZ := hide wz
  have HWE := hide we
  have HLW := hide low
  clear hl hx hy h0 ht hv wz we low
  go_enter Tryd.func15, Tryd.ntmps15
  go_wp2_with fail
  refine hrd.mono ?_
  rintro e w1 ⟨b1, a, ca, xs, c, cc, ds, er, p, rfl, FA, _, hi, lx, ld, hb⟩
  obtain ⟨rfl, rfl, rfl, rfl, rfl⟩ := hi.unique HI.out FA.up.words FA.down.words HWZ.out HWE.out
  have hq := box2_new w1 (.cells #[.bool b1, .slice a xs.length ca, .slice c ds.length cc] 31) (.cells #[.int .i64 0, .int .i64 0] 48)
  have ER : Box ((w1.alloc (.cells #[.bool b1, .slice a xs.length ca, .slice c ds.length cc] 31)).alloc (.cells #[.int .i64 0, .int .i64 0] 48)) w1.heap.size (.cells #[.bool b1, .slice a xs.length ca, .slice c ds.length cc] 31) := (Box.put _ rfl).below (below_new _ _)
  have EF : Box ((w1.alloc (.cells #[.bool b1, .slice a xs.length ca, .slice c ds.length cc] 31)).alloc (.cells #[.int .i64 0, .int .i64 0] 48)) (w1.heap.size + 1) (.cells #[.int .i64 0, .int .i64 0] 48) := Box.put _ (by simp)
  have FA1 := FA.below hq
  have hB := hb.trans (hq.mono hb.size)
  have HLX := hide lx
  have HLD := hide ld
  clear hrd hi lx ld hb FA hq
  go_wp2_with fail
  obtain ⟨u1, hname⟩ : ∃ u, (w1.alloc (.cells #[.bool b1, .slice a xs.length ca, .slice c ds.length cc] 31)).alloc (.cells #[.int .i64 0, .int .i64 0] 48) = u := ⟨_, rfl⟩
  have hsz : w1.heap.size + 2 = u1.heap.size := by rw [← hname]; simp
  rw [hname] at ER EF FA1 hB ⊢
  clear hname
  refine (HP.out _).mono ?_
  rintro e w2 ⟨g2, a2, c2, x2, e2, cc2, y2, rfl, F2, _, I2, hb⟩
  replace ER := ER.below hb
  replace EF := EF.below hb
  replace FA1 := FA1.below hb
  replace hB := hB.trans (hb.mono hB.size)
  have q2 := below_new w2 (.cells #[.bool g2, .slice a2 x2.length c2, .slice e2 y2.length cc2] 31)
  have EP : Box (w2.alloc (.cells #[.bool g2, .slice a2 x2.length c2, .slice e2 y2.length cc2] 31)) w2.heap.size (.cells #[.bool g2, .slice a2 x2.length c2, .slice e2 y2.length cc2] 31) := Box.put _ rfl
  replace ER := ER.below q2
  replace EF := EF.below q2
  replace FA1 := FA1.below q2
  replace F2 := F2.below q2
  replace hB := hB.trans (q2.mono hB.size)
  have hsm := samer_is FA1 F2 (n := 1000) (m := 1) ⟨HLW.out, HQ.out, HLX.out, HLD.out⟩ I2 (by omega)
  obtain ⟨k0, k1, k2, f0, f1, f2⟩ := ER.three
  obtain ⟨j0, j1, g0, g1⟩ := EF.two
  obtain ⟨i0, i1, i2, h0', h1', h2'⟩ := EP.three
  have HB := hide hB
  clear hb q2 ER EF EP FA1 F2 I2 hsz hB
  go_wp2_with fail
  refine hsm.mono ?_
  rintro e w3 ⟨rfl, hb⟩
  clear k0 k1 k2 f0 f1 f2 j0 j1 g0 g1 i0 i1 i2 h0' h1' h2' hsm
  go_wp2
  go_ret
  exact ⟨rfl, HB.out.trans (hb.mono HB.out.size)⟩
theorem octs_lit {l : List Int} (h : l.all (fun z => decide (0 ≤ z ∧ z < 256)) = true) : Octs l := fun z hz => of_decide_eq_true (List.all_eq_true.1 h z hz)
theorem words_lit {x : Int} (h : 0 ≤ x ∧ x < 18446744073709551616) : Words [x] := Words.cons h Words.nil
theorem dec_lit (v : Int) (bs : List Int) (h : getZ bs = .ok v) (ho : bs.all (fun z => decide (0 ≤ z ∧ z < 256)) = true) : decI v = bs := decI_of (octs_lit ho) h
theorem no_68 : NoText [54, 47, 56] := by
  refine no_form (b := false) (xs := [6]) (ds := [8]) (words_lit (by decide)) (words_lit (by decide)) (Or.inr (by decide)) (Or.inr (by decide)) ?_ ?_
  · show textZ false 6 8 = _
    rw [textZ, dec_lit 6 [54] rfl rfl, dec_lit 8 [56] rfl rfl]
    rfl
  · intro h
    have h1 := ((formR_low (words_lit (by decide)) (words_lit (by decide))).1 h).2.2.2
    exact absurd h1 (by decide)
theorem no_51 : NoText [53, 47, 49] :=
  no_one (bl := false) (R := [53, 47, 49]) ⟨rfl, fun _ => by decide⟩ (by decide) (u := 5) ⟨[53], [49], rfl, by decide, by decide, rfl, rfl⟩
theorem no_m0 : NoText [45, 48] := by
  refine no_form (b := true) (xs := []) (ds := [1]) Words.nil (words_lit (by decide)) (Or.inl rfl) (Or.inr (by decide)) ?_ ?_
  · show textZ true 0 1 = _
    rw [textZ, decI_zero]
    rfl
  · intro h
    exact ((formR_low Words.nil (words_lit (by decide))).1 h).1.2 rfl rfl
theorem no_3 : NoText [51, 47] :=
  no_numbers (bl := false) (R := [51, 47]) ⟨rfl, fun _ => by decide⟩ (by decide) ⟨fun u h => h.1 (by decide), fun u d h => by
    obtain ⟨x, y, e, hx, _, _, gy⟩ := h
    obtain ⟨_, e2⟩ := cut_unique (x := [51]) (y := []) (x' := x) (y' := y) e (by decide) hx
    rw [← e2] at gy
    cases gy⟩
theorem low_34 : LowL true [3] [4] := ⟨⟨Or.inr (by decide), fun _ => by decide⟩, Or.inr (by decide), by decide, by decide⟩
theorem low_5 : LowL false [5] [1] := ⟨⟨Or.inr (by decide), fun h => by cases h⟩, Or.inr (by decide), by decide, by decide⟩
theorem text_34 : textZ true (val [3]) (val [4]) = [45, 51, 47, 52] := by
  show textZ true 3 4 = _
  rw [textZ, dec_lit 3 [51] rfl rfl, dec_lit 4 [52] rfl rfl]
  rfl
theorem text_5 : textZ false (val [5]) (val [1]) = [53] := by
  show textZ false 5 1 = _
  rw [textZ, dec_lit 5 [53] rfl rfl]
  rfl
theorem b256_258 : b256 258 = [1, 2] := by
  have h1 := b256_step (P := 1) (b := 2) (by decide) (by decide) (by decide)
  have h2 := b256_step (P := 0) (b := 1) (by decide) (by decide) (by decide)
  rw [b256_zero] at h2
  have e1 : (0 : Int) * 256 + 1 = 1 := rfl
  have e2 : (1 : Int) * 256 + 2 = 258 := rfl
  rw [e1] at h2
  rw [e2, h2] at h1
  exact h1
theorem seg_lit1 {k : Nat} {w : World} {x : Int} (hx : 0 ≤ x ∧ x < 18446744073709551616) (E : Box w k (.cells #[.int .u64 x] 40)) : Seg k w (.slice (some ⟨k, 0, none⟩) 1 1) [x] := by
  refine ⟨words_lit hx, _, _, rfl, Nat.le_refl _, fun _ => ⟨k, 0, rfl, Nat.le_refl _, E.lt, fun j hj => ?_, fun j _ => frozen_of_heap E.what _⟩⟩
  rw [cell_of_heap E.what]
  have hj' : j < 1 := hj
  obtain rfl : j = 0 := by omega
  rfl
theorem byt_two {k : Nat} {w : World} {p q : Int} (hp : 0 ≤ p ∧ p < 256) (hq : 0 ≤ q ∧ q < 256) (E : Box w k (.cells #[.int .u8 p, .int .u8 q] 5)) : Byt k w (.slice (some ⟨k, 0, none⟩) 2 2) [p, q] := by
  refine ⟨fun z hz => ?_, _, _, rfl, Nat.le_refl _, fun _ => ⟨k, 0, rfl, Nat.le_refl _, E.lt, fun j hj => ?_, fun j _ => frozen_of_heap E.what _⟩⟩
  · rcases List.mem_cons.1 hz with rfl | hz
    · exact hp
    · rw [List.mem_singleton.1 hz]; exact hq
  · rw [cell_of_heap E.what]
    have hj' : j < 2 := hj
    rcases (by omega : j = 0 ∨ j = 1) with rfl | rfl <;> rfl
theorem from_12 {k : Nat} {w : World} (E : Box w k (.cells #[.int .u8 1, .int .u8 2] 5)) :
    Calls Tryd.prog 6 #[.slice (some ⟨k, 0, none⟩) 2 2] w fun e w' => ∃ (a : Option Addr) (c : Nat), e = .returned (.tuple #[.slice a 1 c, .int .i64 0]) ∧ Seg w.heap.size w' (.slice a 1 c) [258] ∧ Below w.heap.size w w' := by
  refine (from_any (bs := [1, 2]) (byt_two (by decide) (by decide) E) (by decide) (fun _ => by decide)).mono ?_
  rintro e w' ⟨a, c, zs, rfl, S, N, V, _, hb⟩
  obtain rfl := norm_unique S.words (words_lit (x := 258) (by decide)) N (Or.inr (by decide)) (V.trans rfl)
  exact ⟨a, c, rfl, S, hb⟩
theorem from_01 {k : Nat} {w : World} (E : Box w k (.cells #[.int .u8 0, .int .u8 1] 5)) :
    Calls Tryd.prog 6 #[.slice (some ⟨k, 0, none⟩) 2 2] w fun e w' => e = .returned (.tuple #[.slice none 0 0, .int .i64 6]) ∧ w' = w :=
  from_no (bs := [0, 1]) (byt_two (by decide) (by decide) E) (by decide) (by decide) rfl
theorem from_nil (w : World) :
    Calls Tryd.prog 6 #[.slice none 0 0] w fun e w' => ∃ (a : Option Addr) (c : Nat), e = .returned (.tuple #[.slice a 0 c, .int .i64 0]) ∧ Below w.heap.size w w' := by
  refine (from_any (bs := []) (Byt.nil 0 w) (by decide) (fun h => absurd rfl h)).mono ?_
  rintro e w' ⟨a, c, zs, rfl, S, N, V, hl, hb⟩
  obtain rfl : zs = [] := List.length_eq_zero_iff.1 hl
  exact ⟨a, c, rfl, hb⟩
theorem pair_34 (w : World) :
    Calls Tryd.prog 7 #[.int .i64 (-3), .int .i64 4] w fun e w' => ∃ (a : Option Addr) (ca : Nat) (c : Option Addr) (cc : Nat), e = .returned (.tuple #[.agg #[.bool true, .slice a 1 ca, .slice c 1 cc], .int .i64 0]) ∧ Fr w.heap.size w' a ca [3] c cc [4] ∧ Below w.heap.size w w' := by
  refine (ppair_pos (-3) 4 (by decide) (by decide) (by decide) w).mono ?_
  rintro e w' ⟨b, a, ca, ts, c, cc, es, rfl, F, _, I, hb⟩
  obtain ⟨rfl, rfl, rfl⟩ := lowL_unique F.up.words F.down.words (words_lit (x := 3) (by decide)) (words_lit (x := 4) (by decide)) I.low low_34 (I.rat.trans rfl)
  exact ⟨a, ca, c, cc, rfl, F, hb⟩
theorem pair_5 (w : World) :
    Calls Tryd.prog 7 #[.int .i64 5, .int .i64 1] w fun e w' => ∃ (a : Option Addr) (ca : Nat) (c : Option Addr) (cc : Nat), e = .returned (.tuple #[.agg #[.bool false, .slice a 1 ca, .slice c 1 cc], .int .i64 0]) ∧ Fr w.heap.size w' a ca [5] c cc [1] ∧ Below w.heap.size w w' := by
  refine (ppair_pos 5 1 (by decide) (by decide) (by decide) w).mono ?_
  rintro e w' ⟨b, a, ca, ts, c, cc, es, rfl, F, _, I, hb⟩
  obtain ⟨rfl, rfl, rfl⟩ := lowL_unique F.up.words F.down.words (words_lit (x := 5) (by decide)) (words_lit (x := 1) (by decide)) I.low low_5 (I.rat.trans rfl)
  exact ⟨a, ca, c, cc, rfl, F, hb⟩
theorem text_is34 {lo : Nat} {a c : Option Addr} {ca cc : Nat} {w : World} (F : Fr lo w a ca [3] c cc [4]) :
    Calls Tryd.prog 8 #[.agg #[.bool true, .slice a 1 ca, .slice c 1 cc]] w fun e w' => e = .returned (.tuple #[.string (strOfNums [45, 51, 47, 52]), .int .i64 0]) ∧ Below w.heap.size w w' := by
  have h := text_ok true F (by decide) (by decide) ((formR_low F.up.words F.down.words).2 low_34)
  rw [text_34] at h
  exact h
theorem text_is5 {lo : Nat} {a c : Option Addr} {ca cc : Nat} {w : World} (F : Fr lo w a ca [5] c cc [1]) :
    Calls Tryd.prog 8 #[.agg #[.bool false, .slice a 1 ca, .slice c 1 cc]] w fun e w' => e = .returned (.tuple #[.string (strOfNums [53]), .int .i64 0]) ∧ Below w.heap.size w w' := by
  have h := text_ok false F (by decide) (by decide) ((formR_low F.up.words F.down.words).2 low_5)
  rw [text_5] at h
  exact h
theorem put_nil (w : World) : Calls Tryd.prog 9 #[.slice none 0 0] w fun e w' => e = .returned (.string (strOfNums [48])) ∧ Below w.heap.size w w' := put_any (xs := []) (Seg.nil 0 w) (by decide)
theorem bytes_258 {k : Nat} {w : World} (E : Box w k (.cells #[.int .u64 258] 40)) :
    Calls Tryd.prog 12 #[.slice (some ⟨k, 0, none⟩) 1 1] w fun e w' => ∃ (a : Option Addr) (c : Nat), e = .returned (.slice a 2 c) ∧ Byt w.heap.size w' (.slice a 2 c) [1, 2] ∧ Below w.heap.size w w' := by
  have h := bytes_any (xs := [258]) (seg_lit1 (by decide) E) (by decide)
  rw [show val [258] = 258 from rfl, b256_258] at h
  exact h
theorem bytes_nil (w : World) : Calls Tryd.prog 12 #[.slice none 0 0] w fun e w' => ∃ (a : Option Addr) (c : Nat), e = .returned (.slice a 0 c) ∧ Below w.heap.size w w' := by
  have h := bytes_any (xs := []) (Seg.nil 0 w) (by decide)
  rw [show val [] = 0 from rfl, b256_zero] at h
  refine h.mono ?_
  rintro e w' ⟨a, c, rfl, _, hb⟩
  exact ⟨a, c, rfl, hb⟩
theorem same_12 {k lo : Nat} {a : Option Addr} {c : Nat} {w : World} (D : Byt lo w (.slice a 2 c) [1, 2]) (E : Box w k (.cells #[.int .u8 1, .int .u8 2] 5)) :
    Calls Tryd.prog 11 #[.slice a 2 c, .slice (some ⟨k, 0, none⟩) 2 2] w fun e w' => e = .returned (.bool true) ∧ Below w.heap.size w w' := by
  have h := sameb_any D (byt_two (by decide) (by decide) E)
  rw [decide_eq_true rfl] at h
  exact h
theorem same_258 {k lo : Nat} {a : Option Addr} {c : Nat} {w : World} (S : Seg lo w (.slice a 1 c) [258]) (E : Box w k (.cells #[.int .u64 258] 40)) :
    Calls Tryd.prog 13 #[.slice a 1 c, .slice (some ⟨k, 0, none⟩) 1 1] w fun e w' => e = .returned (.bool true) ∧ Below w.heap.size w w' :=
  same_yes (xs := [258]) S (seg_lit1 (by decide) E) (by decide)
theorem reads_34 (w : World) : Calls Tryd.prog 15 #[.string ⟨#[45, 51, 47, 52]⟩, .int .i64 (-3), .int .i64 4] w fun e w' => e = .returned (.bool true) ∧ Below w.heap.size w w' :=
  reads_ok ⟨#[45, 51, 47, 52]⟩ (-3) 4 w (by decide) (by decide) (by decide) (by decide) true [3] [4] (words_lit (by decide)) (words_lit (by decide)) low_34 (text_34.trans rfl) ⟨rfl, rfl⟩
theorem decI_short {ts : List Int} (hw : Words ts) : (decI (val ts)).length ≤ 20 * ts.length + 1 := by
  rcases Int.lt_or_eq_of_le (val_nonneg hw) with h4 | h4
  · rw [decI_pos h4]
    have := decP_len (val_lt hw)
    omega
  · rw [← h4, decI_zero]
    simp
theorem text_form {lo : Nat} {a c : Option Addr} {ca cc : Nat} {xs ds : List Int} {w : World} (b : Bool) (FA : Fr lo w a ca xs c cc ds) (hl : xs.length ≤ 10) (hl2 : ds.length ≤ 10) : ∃ T : ByteArray, T.size ≤ 1000 ∧ (formR b xs ds = 0 → strOfNums (textZ b (val xs) (val ds)) = T) ∧
    ∀ {lo : Nat} {a c : Option Addr} {ca cc : Nat} {w : World}, Fr lo w a ca xs c cc ds → Calls Tryd.prog 8 #[.agg #[.bool b, .slice a xs.length ca, .slice c ds.length cc]] w fun e w' => e = .returned (.tuple #[.string T, .int .i64 (formR b xs ds)]) ∧ Below w.heap.size w w' := by
  by_cases h : formR b xs ds = 0
  · refine ⟨_, ?_, fun _ => rfl, fun F => ?_⟩
    · have h1 := decI_short FA.up.words
      have h2 := decI_short FA.down.words
      rw [strOfNums_size, textZ, List.length_append, List.length_append]
      have h3 : (if b then [45] else ([] : List Int)).length ≤ 1 := by cases b <;> simp
      have h4 : (if val ds = 1 then [] else 47 :: decI (val ds)).length ≤ 202 := by
        split
        · simp
        · rw [List.length_cons]; omega
      omega
    · rw [h]
      exact text_ok b F (by omega) (by omega) h
  · refine ⟨strOfNums [], by decide, fun e => absurd e h, fun F => ?_⟩
    have h6 : formR b xs ds = 6 := by
      unfold formR at h ⊢
      split
      · rename_i h'; rw [if_pos h'] at h; exact absurd rfl h
      · rfl
    rw [h6]
    exact text_no b F (by omega) (by omega) h
theorem read_back {b : Bool} {xs ds : List Int} (T : ByteArray) (w : World) (hs : T.size ≤ 1000) (wx : Words xs) (wd : Words ds) (hf : formR b xs ds = 0) (hT : strOfNums (textZ b (val xs) (val ds)) = T) :
    Calls Tryd.prog 24 #[.string T] w fun e w' => ∃ (a : Option Addr) (ca : Nat) (c : Option Addr) (cc : Nat), e = .returned (.tuple #[.agg #[.bool b, .slice a xs.length ca, .slice c ds.length cc], .agg #[.int .i64 0, .int .i64 0]]) ∧ Fr w.heap.size w' a ca xs c cc ds ∧ Below w.heap.size w w' := by
  have ho : octs T = textZ b (val xs) (val ds) := by rw [← hT, octs_str (textZ_octs b _ _)]
  refine (read_any T w (Or.inl hs)).mono ?_
  rintro e w' ⟨b1, a, ca, x1, c, cc, d1, er, p, rfl, F, _, hi, _, _, hb⟩
  have h2 : ReadIs (octs T) b xs ds 0 0 := .ok ((formR_low wx wd).1 hf) ho.symm (by rw [octs_len]; omega)
  obtain ⟨rfl, rfl, rfl, rfl, rfl⟩ := hi.unique h2 F.up.words F.down.words wx wd
  exact ⟨a, ca, c, cc, rfl, F, hb⟩
theorem read_in (s : ByteArray) (w : World) (hs : s.size ≤ 1000) :
    Calls Tryd.prog 24 #[.string s] w fun e w' => ∃ (b : Bool) (a : Option Addr) (ca : Nat) (xs : List Int) (c : Option Addr) (cc : Nat) (ds : List Int) (er p : Int), e = .returned (.tuple #[.agg #[.bool b, .slice a xs.length ca, .slice c ds.length cc], .agg #[.int .i64 er, .int .i64 p]]) ∧ Fr w.heap.size w' a ca xs c cc ds ∧ ((er = 0 ∧ formR b xs ds = 0 ∧ strOfNums (textZ b (val xs) (val ds)) = s) ∨ ¬ er = 0) ∧ (xs.length ≤ 1000 ∧ ds.length ≤ 1000) ∧ Below w.heap.size w w' := by
  refine (read_any s w (Or.inl hs)).mono ?_
  rintro e w' ⟨b, a, ca, xs, c, cc, ds, er, p, rfl, F, _, hi, l1, l2, hb⟩
  refine ⟨b, a, ca, xs, c, cc, ds, er, p, rfl, F, ?_, ⟨l1, l2⟩, hb⟩
  cases hi with
  | ok low ht _ => exact Or.inl ⟨rfl, (formR_low F.up.words F.down.words).2 low, by rw [ht, str_octs]⟩
  | long h => exact Or.inr (by decide)
  | bad _ _ => exact Or.inr (by decide)
theorem text_same {b g : Bool} {xs ds ys es : List Int} {S T : ByteArray} (wx : Words xs) (wd : Words ds) (wy : Words ys) (we : Words es) (h1 : formR b xs ds = 0) (h2 : formR g ys es = 0) (hS : strOfNums (textZ b (val xs) (val ds)) = S) (hT : strOfNums (textZ g (val ys) (val es)) = T) :
    (S.toList == T.toList) = decide (b = g ∧ xs = ys ∧ ds = es) := by
  have k1 := (formR_low wx wd).1 h1
  have k2 := (formR_low wy we).1 h2
  rw [Bool.eq_iff_iff, beq_iff_eq, decide_eq_true_iff, ← hS, ← hT, strOfNums_toList, strOfNums_toList, strOfNums_inj (textZ_octs _ _ _) (textZ_octs _ _ _)]
  constructor
  · intro h
    obtain ⟨e1, e2, e3⟩ := textZ_inj (val_nonneg wx) (val_nonneg wd) (val_nonneg wy) (val_nonneg we) h
    exact ⟨e1, norm_unique wx wy k1.1.1 k2.1.1 e2, norm_unique wd we k1.2.1 k2.2.1 e3⟩
  · rintro ⟨rfl, rfl, rfl⟩
    rfl
set_option maxRecDepth 100000 in
set_option maxHeartbeats 16000000 in
theorem dknown_any (w : World) : Calls Tryd.prog 3 #[] w fun e w' => e = .returned (.bool true) ∧ Below w.heap.size w w' := by
  have t34 : (strOfNums [45, 51, 47, 52]).toList = [45, 51, 47, 52] := by rw [strOfNums_toList]; rfl
  have t5 : (strOfNums [53]).toList = [53] := by rw [strOfNums_toList]; rfl
  have t0 : (strOfNums [48]).toList = [48] := by rw [strOfNums_toList]; rfl
  obtain ⟨S34, hS34⟩ : ∃ S, strOfNums [45, 51, 47, 52] = S := ⟨_, rfl⟩
  obtain ⟨S5, hS5⟩ : ∃ S, strOfNums [53] = S := ⟨_, rfl⟩
  obtain ⟨S0, hS0⟩ : ∃ S, strOfNums [48] = S := ⟨_, rfl⟩
  rw [hS34] at t34
  rw [hS5] at t5
  rw [hS0] at t0
  have HS34 := hide hS34
  have HS5 := hide hS5
  have HS0 := hide hS0
  clear hS34 hS5 hS0
  have hB := Below.refl w.heap.size w
  have qBA := below_new w (.cells #[.int .u8 1, .int .u8 2] 5)
  replace hB := hB.trans (qBA.mono hB.size)
  clear qBA
  have BA := Box.put (w := w) (k := (w.heap.size)) (.cells #[.int .u8 1, .int .u8 2] 5) rfl
  go_enter Tryd.func3, Tryd.ntmps3
  go_wp2_with fail
  obtain ⟨u1, hname⟩ := nm hB
  rw [hname] at BA hB ⊢
  clear hname
  refine (from_12 BA).mono ?_
  rintro e w2 ⟨an, cn, rfl, SN, hb⟩
  replace BA := BA.below hb
  replace hB := hB.trans (hb.mono hB.size)
  clear hb
  clear BA
  have qBB := below_new w2 (.cells #[.int .u8 0, .int .u8 1] 5)
  replace SN := SN.below qBB
  replace hB := hB.trans (qBB.mono hB.size)
  clear qBB
  have BB := Box.put (w := w2) (k := (w2.heap.size)) (.cells #[.int .u8 0, .int .u8 1] 5) rfl
  go_wp2_with fail
  obtain ⟨u1, hname⟩ := nm hB
  rw [hname] at SN BB hB ⊢
  clear hname
  refine (from_01 BB).mono ?_
  rintro e w90 ⟨rfl, rfl⟩
  clear BB
  go_wp2_with fail
  refine (from_nil _).mono ?_
  rintro e w3 ⟨az, cz, rfl, hb⟩
  replace SN := SN.below hb
  replace hB := hB.trans (hb.mono hB.size)
  clear hb
  go_wp2_with fail
  refine (pair_34 _).mono ?_
  rintro e w4 ⟨a1, ca1, c1, cc1, rfl, F1, hb⟩
  replace SN := SN.below hb
  replace hB := hB.trans (hb.mono hB.size)
  clear hb
  have qE1 := below_new w4 (.cells #[.bool true, .slice a1 1 ca1, .slice c1 1 cc1] 31)
  replace SN := SN.below qE1
  replace F1 := F1.below qE1
  replace hB := hB.trans (qE1.mono hB.size)
  clear qE1
  have E1 := Box.put (w := w4) (k := (w4.heap.size)) (.cells #[.bool true, .slice a1 1 ca1, .slice c1 1 cc1] 31) rfl
  obtain ⟨k5a, k5b, k5c, f5a, f5b, f5c⟩ := E1.three
  go_wp2_with fail
  clear k5a k5b k5c f5a f5b f5c
  obtain ⟨u6, hname⟩ := nm hB
  rw [hname] at SN F1 E1 hB ⊢
  clear hname
  refine (text_is34 F1).mono ?_
  rintro e w7 ⟨rfl, hb⟩
  replace SN := SN.below hb
  replace F1 := F1.below hb
  replace E1 := E1.below hb
  replace hB := hB.trans (hb.mono hB.size)
  clear hb
  rw [HS34.out]
  clear F1 E1
  go_wp2_with fail
  refine (pair_5 _).mono ?_
  rintro e w8 ⟨a2, ca2, c2, cc2, rfl, F2, hb⟩
  replace SN := SN.below hb
  replace hB := hB.trans (hb.mono hB.size)
  clear hb
  have qE2 := below_new w8 (.cells #[.bool false, .slice a2 1 ca2, .slice c2 1 cc2] 31)
  replace SN := SN.below qE2
  replace F2 := F2.below qE2
  replace hB := hB.trans (qE2.mono hB.size)
  clear qE2
  have E2 := Box.put (w := w8) (k := (w8.heap.size)) (.cells #[.bool false, .slice a2 1 ca2, .slice c2 1 cc2] 31) rfl
  obtain ⟨k9a, k9b, k9c, f9a, f9b, f9c⟩ := E2.three
  go_wp2_with fail
  clear k9a k9b k9c f9a f9b f9c
  obtain ⟨u10, hname⟩ := nm hB
  rw [hname] at SN F2 E2 hB ⊢
  clear hname
  refine (text_is5 F2).mono ?_
  rintro e w11 ⟨rfl, hb⟩
  replace SN := SN.below hb
  replace F2 := F2.below hb
  replace E2 := E2.below hb
  replace hB := hB.trans (hb.mono hB.size)
  clear hb
  rw [HS5.out]
  clear F2 E2
  go_wp2_with fail
  refine (put_nil _).mono ?_
  rintro e w12 ⟨rfl, hb⟩
  replace SN := SN.below hb
  replace hB := hB.trans (hb.mono hB.size)
  clear hb
  rw [HS0.out]
  go_wp2_with fail
  refine (gets_no ⟨#[]⟩ 6 0 (by decide) rfl).mono ?_
  rintro e w13 ⟨rfl, hb⟩
  replace SN := SN.below hb
  replace hB := hB.trans (hb.mono hB.size)
  clear hb
  go_wp2_with fail
  refine (gets_no ⟨#[49, 97]⟩ 6 1 (by decide) rfl).mono ?_
  rintro e w14 ⟨rfl, hb⟩
  replace SN := SN.below hb
  replace hB := hB.trans (hb.mono hB.size)
  clear hb
  have qB8 := below_new w14 (.cells #[.int .u64 258] 40)
  replace SN := SN.below qB8
  replace hB := hB.trans (qB8.mono hB.size)
  clear qB8
  have B8 := Box.put (w := w14) (k := (w14.heap.size)) (.cells #[.int .u64 258] 40) rfl
  go_wp2_with fail
  obtain ⟨u15, hname⟩ := nm hB
  rw [hname] at SN B8 hB ⊢
  clear hname
  refine (bytes_258 B8).mono ?_
  rintro e w16 ⟨ab, cb, rfl, D, hb⟩
  replace SN := SN.below hb
  replace B8 := B8.below hb
  replace hB := hB.trans (hb.mono hB.size)
  clear hb
  clear B8
  have qBC := below_new w16 (.cells #[.int .u8 1, .int .u8 2] 5)
  replace SN := SN.below qBC
  replace D := D.below qBC
  replace hB := hB.trans (qBC.mono hB.size)
  clear qBC
  have BC := Box.put (w := w16) (k := (w16.heap.size)) (.cells #[.int .u8 1, .int .u8 2] 5) rfl
  go_wp2_with fail
  obtain ⟨u17, hname⟩ := nm hB
  rw [hname] at SN D BC hB ⊢
  clear hname
  refine (same_12 D BC).mono ?_
  rintro e w18 ⟨rfl, hb⟩
  replace SN := SN.below hb
  replace D := D.below hb
  replace BC := BC.below hb
  replace hB := hB.trans (hb.mono hB.size)
  clear hb
  clear D BC
  go_wp2_with fail
  refine (bytes_nil _).mono ?_
  rintro e w19 ⟨ae, ce, rfl, hb⟩
  replace SN := SN.below hb
  replace hB := hB.trans (hb.mono hB.size)
  clear hb
  have qB9 := below_new w19 (.cells #[.int .u64 258] 40)
  replace SN := SN.below qB9
  replace hB := hB.trans (qB9.mono hB.size)
  clear qB9
  have B9 := Box.put (w := w19) (k := (w19.heap.size)) (.cells #[.int .u64 258] 40) rfl
  go_wp2_with fail
  obtain ⟨u20, hname⟩ := nm hB
  rw [hname] at SN B9 hB ⊢
  clear hname
  refine (same_258 SN B9).mono ?_
  rintro e w21 ⟨rfl, hb⟩
  replace SN := SN.below hb
  replace B9 := B9.below hb
  replace hB := hB.trans (hb.mono hB.size)
  clear hb
  clear SN B9
  go_wp2_with fail
  refine (dawake_any _).mono ?_
  rintro e w22 ⟨rfl, hb⟩
  replace hB := hB.trans (hb.mono hB.size)
  clear hb
  go_wp2_with fail
  refine (reads_34 _).mono ?_
  rintro e w23 ⟨rfl, hb⟩
  replace hB := hB.trans (hb.mono hB.size)
  clear hb
  go_wp2_with fail
  refine (none_ok ⟨#[54, 47, 56]⟩ _ (by decide) no_68).mono ?_
  rintro e w24 ⟨rfl, hb⟩
  replace hB := hB.trans (hb.mono hB.size)
  clear hb
  go_wp2_with fail
  refine (none_ok ⟨#[53, 47, 49]⟩ _ (by decide) no_51).mono ?_
  rintro e w25 ⟨rfl, hb⟩
  replace hB := hB.trans (hb.mono hB.size)
  clear hb
  go_wp2_with fail
  refine (none_ok ⟨#[45, 48]⟩ _ (by decide) no_m0).mono ?_
  rintro e w26 ⟨rfl, hb⟩
  replace hB := hB.trans (hb.mono hB.size)
  clear hb
  go_wp2_with fail
  refine (none_ok ⟨#[51, 47]⟩ _ (by decide) no_3).mono ?_
  rintro e w27 ⟨rfl, hb⟩
  replace hB := hB.trans (hb.mono hB.size)
  clear hb
  go_wp2
  go_ret
  exact ⟨rfl, hB⟩
set_option maxRecDepth 100000 in
set_option maxHeartbeats 16000000 in
theorem dsame_far1 {a c p r : Option Addr} {ca cc cp cr : Nat} {xs ds ys es : List Int} {w : World} (b g : Bool) (s : ByteArray) (FA : Fr 0 w a ca xs c cc ds) (FB : Fr 0 w p cp ys r cr es) (h : 10 < xs.length ∨ 10 < ds.length) :
    Calls Tryd.prog 5 #[.agg #[.bool b, .slice a xs.length ca, .slice c ds.length cc], .agg #[.bool g, .slice p ys.length cp, .slice r es.length cr], .string s] w fun e w' => e = .returned (.bool true) ∧ Below w.heap.size w w' := by
  have hd1 : decide ((10 : Int) < (xs.length : Int) ∨ (10 : Int) < (ds.length : Int)) = true := decide_eq_true (by omega)
  have hl1 := fun w => longr_any b a xs ca c ds cc 10 w
  rw [hd1] at hl1
  clear hd1
  have hB := Below.refl w.heap.size w
  have qEA := below_new w (.cells #[.bool b, .slice a xs.length ca, .slice c ds.length cc] 31)
  replace FA := FA.below qEA
  replace FB := FB.below qEA
  replace hB := hB.trans (qEA.mono hB.size)
  clear qEA
  have EA := Box.put (w := w) (k := (w.heap.size)) (.cells #[.bool b, .slice a xs.length ca, .slice c ds.length cc] 31) rfl
  have qEB := below_new (w.alloc (.cells #[.bool b, .slice a xs.length ca, .slice c ds.length cc] 31)) (.cells #[.bool g, .slice p ys.length cp, .slice r es.length cr] 31)
  replace FA := FA.below qEB
  replace FB := FB.below qEB
  replace EA := EA.below qEB
  replace hB := hB.trans (qEB.mono hB.size)
  clear qEB
  have EB := Box.put (w := (w.alloc (.cells #[.bool b, .slice a xs.length ca, .slice c ds.length cc] 31))) (k := (w.heap.size + 1)) (.cells #[.bool g, .slice p ys.length cp, .slice r es.length cr] 31) (by simp)
  go_enter Tryd.func5, Tryd.ntmps5
  go_wp2_with fail
  obtain ⟨u1, hname⟩ := nm hB
  rw [hname] at FA FB EA EB hB ⊢
  clear hname
  refine (dknown_any _).mono ?_
  rintro e w2 ⟨rfl, hb⟩
  replace FA := FA.below hb
  replace FB := FB.below hb
  replace EA := EA.below hb
  replace EB := EB.below hb
  replace hB := hB.trans (hb.mono hB.size)
  clear hb
  obtain ⟨k3a, k3b, k3c, f3a, f3b, f3c⟩ := EA.three
  go_wp2_with fail
  clear k3a k3b k3c f3a f3b f3c
  refine (hl1 _).mono ?_
  rintro e w4 ⟨rfl, hb⟩
  replace FA := FA.below hb
  replace FB := FB.below hb
  replace EA := EA.below hb
  replace EB := EB.below hb
  replace hB := hB.trans (hb.mono hB.size)
  clear hb
  clear hl1
  go_wp2
  go_ret
  exact ⟨rfl, hB⟩
set_option maxRecDepth 100000 in
set_option maxHeartbeats 16000000 in
theorem dsame_far2 {a c p r : Option Addr} {ca cc cp cr : Nat} {xs ds ys es : List Int} {w : World} (b g : Bool) (s : ByteArray) (FA : Fr 0 w a ca xs c cc ds) (FB : Fr 0 w p cp ys r cr es) (h1 : xs.length ≤ 10) (h2 : ds.length ≤ 10) (h : 10 < ys.length ∨ 10 < es.length) :
    Calls Tryd.prog 5 #[.agg #[.bool b, .slice a xs.length ca, .slice c ds.length cc], .agg #[.bool g, .slice p ys.length cp, .slice r es.length cr], .string s] w fun e w' => e = .returned (.bool true) ∧ Below w.heap.size w w' := by
  have hd1 : decide ((10 : Int) < (xs.length : Int) ∨ (10 : Int) < (ds.length : Int)) = false := decide_eq_false (by omega)
  have hl1 := fun w => longr_any b a xs ca c ds cc 10 w
  rw [hd1] at hl1
  clear hd1
  have hd2 : decide ((10 : Int) < (ys.length : Int) ∨ (10 : Int) < (es.length : Int)) = true := decide_eq_true (by omega)
  have hl2 := fun w => longr_any g p ys cp r es cr 10 w
  rw [hd2] at hl2
  clear hd2
  have hB := Below.refl w.heap.size w
  have qEA := below_new w (.cells #[.bool b, .slice a xs.length ca, .slice c ds.length cc] 31)
  replace FA := FA.below qEA
  replace FB := FB.below qEA
  replace hB := hB.trans (qEA.mono hB.size)
  clear qEA
  have EA := Box.put (w := w) (k := (w.heap.size)) (.cells #[.bool b, .slice a xs.length ca, .slice c ds.length cc] 31) rfl
  have qEB := below_new (w.alloc (.cells #[.bool b, .slice a xs.length ca, .slice c ds.length cc] 31)) (.cells #[.bool g, .slice p ys.length cp, .slice r es.length cr] 31)
  replace FA := FA.below qEB
  replace FB := FB.below qEB
  replace EA := EA.below qEB
  replace hB := hB.trans (qEB.mono hB.size)
  clear qEB
  have EB := Box.put (w := (w.alloc (.cells #[.bool b, .slice a xs.length ca, .slice c ds.length cc] 31))) (k := (w.heap.size + 1)) (.cells #[.bool g, .slice p ys.length cp, .slice r es.length cr] 31) (by simp)
  go_enter Tryd.func5, Tryd.ntmps5
  go_wp2_with fail
  obtain ⟨u1, hname⟩ := nm hB
  rw [hname] at FA FB EA EB hB ⊢
  clear hname
  refine (dknown_any _).mono ?_
  rintro e w2 ⟨rfl, hb⟩
  replace FA := FA.below hb
  replace FB := FB.below hb
  replace EA := EA.below hb
  replace EB := EB.below hb
  replace hB := hB.trans (hb.mono hB.size)
  clear hb
  obtain ⟨k3a, k3b, k3c, f3a, f3b, f3c⟩ := EA.three
  go_wp2_with fail
  clear k3a k3b k3c f3a f3b f3c
  refine (hl1 _).mono ?_
  rintro e w4 ⟨rfl, hb⟩
  replace FA := FA.below hb
  replace FB := FB.below hb
  replace EA := EA.below hb
  replace EB := EB.below hb
  replace hB := hB.trans (hb.mono hB.size)
  clear hb
  obtain ⟨k5a, k5b, k5c, f5a, f5b, f5c⟩ := EB.three
  go_wp2_with fail
  clear k5a k5b k5c f5a f5b f5c
  refine (hl2 _).mono ?_
  rintro e w6 ⟨rfl, hb⟩
  replace FA := FA.below hb
  replace FB := FB.below hb
  replace EA := EA.below hb
  replace EB := EB.below hb
  replace hB := hB.trans (hb.mono hB.size)
  clear hb
  clear hl1 hl2
  go_wp2
  go_ret
  exact ⟨rfl, hB⟩
set_option maxRecDepth 100000 in
set_option maxHeartbeats 16000000 in
theorem dsame_far3 {a c p r : Option Addr} {ca cc cp cr : Nat} {xs ds ys es : List Int} {w : World} (b g : Bool) (s : ByteArray) (FA : Fr 0 w a ca xs c cc ds) (FB : Fr 0 w p cp ys r cr es) (h1 : xs.length ≤ 10) (h2 : ds.length ≤ 10) (h3 : ys.length ≤ 10) (h4 : es.length ≤ 10) (h : 200 < s.size) :
    Calls Tryd.prog 5 #[.agg #[.bool b, .slice a xs.length ca, .slice c ds.length cc], .agg #[.bool g, .slice p ys.length cp, .slice r es.length cr], .string s] w fun e w' => e = .returned (.bool true) ∧ Below w.heap.size w w' := by
  have hd1 : decide ((10 : Int) < (xs.length : Int) ∨ (10 : Int) < (ds.length : Int)) = false := decide_eq_false (by omega)
  have hl1 := fun w => longr_any b a xs ca c ds cc 10 w
  rw [hd1] at hl1
  clear hd1
  have hd2 : decide ((10 : Int) < (ys.length : Int) ∨ (10 : Int) < (es.length : Int)) = false := decide_eq_false (by omega)
  have hl2 := fun w => longr_any g p ys cp r es cr 10 w
  rw [hd2] at hl2
  clear hd2
  have h5 : (200 : Int) < (s.size : Int) := by omega
  have hB := Below.refl w.heap.size w
  have qEA := below_new w (.cells #[.bool b, .slice a xs.length ca, .slice c ds.length cc] 31)
  replace FA := FA.below qEA
  replace FB := FB.below qEA
  replace hB := hB.trans (qEA.mono hB.size)
  clear qEA
  have EA := Box.put (w := w) (k := (w.heap.size)) (.cells #[.bool b, .slice a xs.length ca, .slice c ds.length cc] 31) rfl
  have qEB := below_new (w.alloc (.cells #[.bool b, .slice a xs.length ca, .slice c ds.length cc] 31)) (.cells #[.bool g, .slice p ys.length cp, .slice r es.length cr] 31)
  replace FA := FA.below qEB
  replace FB := FB.below qEB
  replace EA := EA.below qEB
  replace hB := hB.trans (qEB.mono hB.size)
  clear qEB
  have EB := Box.put (w := (w.alloc (.cells #[.bool b, .slice a xs.length ca, .slice c ds.length cc] 31))) (k := (w.heap.size + 1)) (.cells #[.bool g, .slice p ys.length cp, .slice r es.length cr] 31) (by simp)
  go_enter Tryd.func5, Tryd.ntmps5
  go_wp2_with fail
  obtain ⟨u1, hname⟩ := nm hB
  rw [hname] at FA FB EA EB hB ⊢
  clear hname
  refine (dknown_any _).mono ?_
  rintro e w2 ⟨rfl, hb⟩
  replace FA := FA.below hb
  replace FB := FB.below hb
  replace EA := EA.below hb
  replace EB := EB.below hb
  replace hB := hB.trans (hb.mono hB.size)
  clear hb
  obtain ⟨k3a, k3b, k3c, f3a, f3b, f3c⟩ := EA.three
  go_wp2_with fail
  clear k3a k3b k3c f3a f3b f3c
  refine (hl1 _).mono ?_
  rintro e w4 ⟨rfl, hb⟩
  replace FA := FA.below hb
  replace FB := FB.below hb
  replace EA := EA.below hb
  replace EB := EB.below hb
  replace hB := hB.trans (hb.mono hB.size)
  clear hb
  obtain ⟨k5a, k5b, k5c, f5a, f5b, f5c⟩ := EB.three
  go_wp2_with fail
  clear k5a k5b k5c f5a f5b f5c
  refine (hl2 _).mono ?_
  rintro e w6 ⟨rfl, hb⟩
  replace FA := FA.below hb
  replace FB := FB.below hb
  replace EA := EA.below hb
  replace EB := EB.below hb
  replace hB := hB.trans (hb.mono hB.size)
  clear hb
  clear hl1 hl2
  go_wp2
  go_ret
  exact ⟨rfl, hB⟩
set_option maxRecDepth 100000 in
set_option maxHeartbeats 16000000 in
theorem dsame_main {a c p r : Option Addr} {ca cc cp cr : Nat} {xs ds ys es : List Int} {w : World} (b g : Bool) (s : ByteArray) (FA : Fr 0 w a ca xs c cc ds) (FB : Fr 0 w p cp ys r cr es) (h1 : xs.length ≤ 10) (h2 : ds.length ≤ 10) (h3 : ys.length ≤ 10) (h4 : es.length ≤ 10) (hs : s.size ≤ 200) :
    Calls Tryd.prog 5 #[.agg #[.bool b, .slice a xs.length ca, .slice c ds.length cc], .agg #[.bool g, .slice p ys.length cp, .slice r es.length cr], .string s] w fun e w' => e = .returned (.bool true) ∧ Below w.heap.size w w' := by
  have hd1 : decide ((10 : Int) < (xs.length : Int) ∨ (10 : Int) < (ds.length : Int)) = false := decide_eq_false (by omega)
  have hl1 := fun w => longr_any b a xs ca c ds cc 10 w
  rw [hd1] at hl1
  clear hd1
  have hd2 : decide ((10 : Int) < (ys.length : Int) ∨ (10 : Int) < (es.length : Int)) = false := decide_eq_false (by omega)
  have hl2 := fun w => longr_any g p ys cp r es cr 10 w
  rw [hd2] at hl2
  clear hd2
  have h5 : ¬ (200 : Int) < (s.size : Int) := by omega
  obtain ⟨TA, zA, eA, tA⟩ := text_form b FA h1 h2
  obtain ⟨TB, zB, eB, tB⟩ := text_form g FB h3 h4
  have HTA : Hid (∀ w, Fr 0 w a ca xs c cc ds → Calls Tryd.prog 8 #[.agg #[.bool b, .slice a xs.length ca, .slice c ds.length cc]] w fun e w' => e = .returned (.tuple #[.string TA, .int .i64 (formR b xs ds)]) ∧ Below w.heap.size w w') := fun w F => tA F
  have HTB : Hid (∀ w, Fr 0 w p cp ys r cr es → Calls Tryd.prog 8 #[.agg #[.bool g, .slice p ys.length cp, .slice r es.length cr]] w fun e w' => e = .returned (.tuple #[.string TB, .int .i64 (formR g ys es)]) ∧ Below w.heap.size w w') := fun w F => tB F
  have HCH : Hid (∀ w, Fr 0 w a ca xs c cc ds → Calls Tryd.prog 22 #[.agg #[.bool b, .slice a xs.length ca, .slice c ds.length cc]] w fun e w' => e = .returned (.int .i64 (formR b xs ds)) ∧ Below w.heap.size w w') := fun w F => pcheck_any b F (by omega) (by omega)
  have HSM : Hid (∀ w, Fr 0 w a ca xs c cc ds → Fr 0 w p cp ys r cr es → Calls Tryd.prog 23 #[.agg #[.bool b, .slice a xs.length ca, .slice c ds.length cc], .agg #[.bool g, .slice p ys.length cp, .slice r es.length cr]] w fun e w' => e = .returned (.bool (decide (b = g ∧ xs = ys ∧ ds = es))) ∧ Below w.heap.size w w') := fun w F G => samer_any b g F G (by omega) (by omega)
  have HEQ : Hid (formR b xs ds = 0 → formR g ys es = 0 → (TA.toList == TB.toList) = decide (b = g ∧ xs = ys ∧ ds = es)) := fun k1 k2 => text_same FA.up.words FA.down.words FB.up.words FB.down.words k1 k2 (eA k1) (eB k2)
  have HRD : Hid (formR b xs ds = 0 → ∀ w, Calls Tryd.prog 24 #[.string TA] w fun e w' => ∃ (a : Option Addr) (ca : Nat) (c : Option Addr) (cc : Nat), e = .returned (.tuple #[.agg #[.bool b, .slice a xs.length ca, .slice c ds.length cc], .agg #[.int .i64 0, .int .i64 0]]) ∧ Fr w.heap.size w' a ca xs c cc ds ∧ Below w.heap.size w w') := fun k w => read_back TA w zA FA.up.words FA.down.words k (eA k)
  obtain ⟨fa, hfa⟩ : ∃ x, formR b xs ds = x := ⟨_, rfl⟩
  obtain ⟨fb, hfb⟩ : ∃ x, formR g ys es = x := ⟨_, rfl⟩
  obtain ⟨R, hR⟩ : ∃ x, decide (b = g ∧ xs = ys ∧ ds = es) = x := ⟨_, rfl⟩
  rw [hfa] at HTA HCH HEQ HRD
  rw [hfb] at HTB HEQ
  rw [hR] at HSM HEQ
  clear tA tB eA eB zA zB hfa hfb hR
  have hB := Below.refl w.heap.size w
  have qEA := below_new w (.cells #[.bool b, .slice a xs.length ca, .slice c ds.length cc] 31)
  replace FA := FA.below qEA
  replace FB := FB.below qEA
  replace hB := hB.trans (qEA.mono hB.size)
  clear qEA
  have EA := Box.put (w := w) (k := (w.heap.size)) (.cells #[.bool b, .slice a xs.length ca, .slice c ds.length cc] 31) rfl
  have qEB := below_new (w.alloc (.cells #[.bool b, .slice a xs.length ca, .slice c ds.length cc] 31)) (.cells #[.bool g, .slice p ys.length cp, .slice r es.length cr] 31)
  replace FA := FA.below qEB
  replace FB := FB.below qEB
  replace EA := EA.below qEB
  replace hB := hB.trans (qEB.mono hB.size)
  clear qEB
  have EB := Box.put (w := (w.alloc (.cells #[.bool b, .slice a xs.length ca, .slice c ds.length cc] 31))) (k := (w.heap.size + 1)) (.cells #[.bool g, .slice p ys.length cp, .slice r es.length cr] 31) (by simp)
  go_enter Tryd.func5, Tryd.ntmps5
  go_wp2_with fail
  obtain ⟨u1, hname⟩ := nm hB
  rw [hname] at FA FB EA EB hB ⊢
  clear hname
  refine (dknown_any _).mono ?_
  rintro e w2 ⟨rfl, hb⟩
  replace FA := FA.below hb
  replace FB := FB.below hb
  replace EA := EA.below hb
  replace EB := EB.below hb
  replace hB := hB.trans (hb.mono hB.size)
  clear hb
  obtain ⟨k3a, k3b, k3c, f3a, f3b, f3c⟩ := EA.three
  go_wp2_with fail
  clear k3a k3b k3c f3a f3b f3c
  refine (hl1 _).mono ?_
  rintro e w4 ⟨rfl, hb⟩
  replace FA := FA.below hb
  replace FB := FB.below hb
  replace EA := EA.below hb
  replace EB := EB.below hb
  replace hB := hB.trans (hb.mono hB.size)
  clear hb
  obtain ⟨k5a, k5b, k5c, f5a, f5b, f5c⟩ := EB.three
  go_wp2_with fail
  clear k5a k5b k5c f5a f5b f5c
  refine (hl2 _).mono ?_
  rintro e w6 ⟨rfl, hb⟩
  replace FA := FA.below hb
  replace FB := FB.below hb
  replace EA := EA.below hb
  replace EB := EB.below hb
  replace hB := hB.trans (hb.mono hB.size)
  clear hb
  clear hl1 hl2
  obtain ⟨k7a, k7b, k7c, f7a, f7b, f7c⟩ := EA.three
  go_wp2_with fail
  clear k7a k7b k7c f7a f7b f7c
  refine (HTA.out _ FA).mono ?_
  rintro e w8 ⟨rfl, hb⟩
  replace FA := FA.below hb
  replace FB := FB.below hb
  replace EA := EA.below hb
  replace EB := EB.below hb
  replace hB := hB.trans (hb.mono hB.size)
  clear hb
  obtain ⟨k9a, k9b, k9c, f9a, f9b, f9c⟩ := EB.three
  go_wp2_with fail
  clear k9a k9b k9c f9a f9b f9c
  refine (HTB.out _ FB).mono ?_
  rintro e w10 ⟨rfl, hb⟩
  replace FA := FA.below hb
  replace FB := FB.below hb
  replace EA := EA.below hb
  replace EB := EB.below hb
  replace hB := hB.trans (hb.mono hB.size)
  clear hb
  obtain ⟨k11a, k11b, k11c, f11a, f11b, f11c⟩ := EA.three
  go_wp2_with fail
  clear k11a k11b k11c f11a f11b f11c
  refine (HCH.out _ FA).mono ?_
  rintro e w12 ⟨rfl, hb⟩
  replace FA := FA.below hb
  replace FB := FB.below hb
  replace EA := EA.below hb
  replace EB := EB.below hb
  replace hB := hB.trans (hb.mono hB.size)
  clear hb
  have hcase : (fa = 0 ∧ fb = 0) ∨ (fa = 0 ∧ ¬ fb = 0) ∨ ¬ fa = 0 := by omega
  rcases hcase with ⟨rfl, rfl⟩ | ⟨rfl, hfb⟩ | hfa
  · have hq := HEQ.out (by first | exact rfl | trivial) (by first | exact rfl | trivial)
    obtain ⟨k13a, k13b, k13c, f13a, f13b, f13c⟩ := EA.three
    obtain ⟨k14a, k14b, k14c, f14a, f14b, f14c⟩ := EB.three
    go_wp2_with fail
    clear k13a k13b k13c f13a f13b f13c k14a k14b k14c f14a f14b f14c
    refine (HSM.out _ FA FB).mono ?_
    rintro e w15 ⟨rfl, hb⟩
    replace FA := FA.below hb
    replace FB := FB.below hb
    replace EA := EA.below hb
    replace EB := EB.below hb
    replace hB := hB.trans (hb.mono hB.size)
    clear hb
    clear HSM
    have hqq := hq
    clear hq
    have HR0 := hide (HRD.out (by first | exact rfl | trivial))
    go_wp2_with fail
    refine (HR0.out _).mono ?_
    rintro e w16 ⟨ax, cax, cx, ccx, rfl, FX, hb⟩
    replace FA := FA.below hb
    replace FB := FB.below hb
    replace EA := EA.below hb
    replace EB := EB.below hb
    replace hB := hB.trans (hb.mono hB.size)
    clear hb
    have qEX := below_new w16 (.cells #[.bool b, .slice ax xs.length cax, .slice cx ds.length ccx] 31)
    replace FA := FA.below qEX
    replace FB := FB.below qEX
    replace EA := EA.below qEX
    replace EB := EB.below qEX
    replace FX := FX.below qEX
    replace hB := hB.trans (qEX.mono hB.size)
    clear qEX
    have EX := Box.put (w := w16) (k := (w16.heap.size)) (.cells #[.bool b, .slice ax xs.length cax, .slice cx ds.length ccx] 31) rfl
    have qEF := below_new (w16.alloc (.cells #[.bool b, .slice ax xs.length cax, .slice cx ds.length ccx] 31)) (.cells #[.int .i64 0, .int .i64 0] 48)
    replace FA := FA.below qEF
    replace FB := FB.below qEF
    replace EA := EA.below qEF
    replace EB := EB.below qEF
    replace FX := FX.below qEF
    replace EX := EX.below qEF
    replace hB := hB.trans (qEF.mono hB.size)
    clear qEF
    have EF := Box.put (w := (w16.alloc (.cells #[.bool b, .slice ax xs.length cax, .slice cx ds.length ccx] 31))) (k := (w16.heap.size + 1)) (.cells #[.int .i64 0, .int .i64 0] 48) (by simp)
    obtain ⟨k17a, k17b, k17c, f17a, f17b, f17c⟩ := EA.three
    obtain ⟨k18a, k18b, k18c, f18a, f18b, f18c⟩ := EX.three
    obtain ⟨k19a, k19b, f19a, f19b⟩ := EF.two
    go_wp2_with fail
    clear k17a k17b k17c f17a f17b f17c k18a k18b k18c f18a f18b f18c k19a k19b f19a f19b
    obtain ⟨u20, hname⟩ := nm hB
    rw [hname] at FA FB EA EB FX EX EF hB ⊢
    clear hname
    refine (samer_yes b FX FA (by omega) (by omega)).mono ?_
    rintro e w21 ⟨rfl, hb⟩
    replace FA := FA.below hb
    replace FB := FB.below hb
    replace EA := EA.below hb
    replace EB := EB.below hb
    replace FX := FX.below hb
    replace EX := EX.below hb
    replace EF := EF.below hb
    replace hB := hB.trans (hb.mono hB.size)
    clear hb
    obtain ⟨lo6, hlo6⟩ : ∃ n : Nat, n = 0 := ⟨_, rfl⟩
    clear hlo6
    go_wp2_with fail
    refine (read_in s _ (by omega)).mono ?_
    rintro e w22 ⟨b6, a6, ca6, x6, c6, cc6, d6, er, q, rfl, F6, hc6, l6, hb⟩
    replace FA := FA.below hb
    replace FB := FB.below hb
    replace EA := EA.below hb
    replace EB := EB.below hb
    replace FX := FX.below hb
    replace EX := EX.below hb
    replace EF := EF.below hb
    replace hB := hB.trans (hb.mono hB.size)
    clear hb
    clear FA
    clear FB
    clear EA
    clear EB
    clear FX
    clear EX
    clear EF
    have qE6 := below_new w22 (.cells #[.bool b6, .slice a6 x6.length ca6, .slice c6 d6.length cc6] 31)
    replace F6 := F6.below qE6
    replace hB := hB.trans (qE6.mono hB.size)
    clear qE6
    have E6 := Box.put (w := w22) (k := (w22.heap.size)) (.cells #[.bool b6, .slice a6 x6.length ca6, .slice c6 d6.length cc6] 31) rfl
    have qEQ := below_new (w22.alloc (.cells #[.bool b6, .slice a6 x6.length ca6, .slice c6 d6.length cc6] 31)) (.cells #[.int .i64 er, .int .i64 q] 48)
    replace F6 := F6.below qEQ
    replace E6 := E6.below qEQ
    replace hB := hB.trans (qEQ.mono hB.size)
    clear qEQ
    have EQ := Box.put (w := (w22.alloc (.cells #[.bool b6, .slice a6 x6.length ca6, .slice c6 d6.length cc6] 31))) (k := (w22.heap.size + 1)) (.cells #[.int .i64 er, .int .i64 q] 48) (by simp)
    rcases hc6 with ⟨rfl, hf6, ht6⟩ | he
    · have htx := fun w (F : Fr w21.heap.size w a6 ca6 x6 c6 cc6 d6) => text_ok b6 F l6.1 l6.2 hf6
      rw [ht6] at htx
      have HTX := hide htx
      clear htx
      obtain ⟨k23a, k23b, k23c, f23a, f23b, f23c⟩ := E6.three
      obtain ⟨k24a, k24b, f24a, f24b⟩ := EQ.two
      go_wp2_with fail
      clear k23a k23b k23c f23a f23b f23c k24a k24b f24a f24b
      obtain ⟨u25, hname⟩ := nm hB
      rw [hname] at F6 E6 EQ hB ⊢
      clear hname
      refine (HTX.out _ F6).mono ?_
      rintro e w26 ⟨rfl, hb⟩
      replace F6 := F6.below hb
      replace E6 := E6.below hb
      replace EQ := EQ.below hb
      replace hB := hB.trans (hb.mono hB.size)
      clear hb
      clear HTX
      go_wp2
      go_ret
      exact ⟨rfl, hB⟩
    · obtain ⟨k23a, k23b, f23a, f23b⟩ := EQ.two
      go_wp2
      go_ret
      exact ⟨rfl, hB⟩
  · have HR0 := hide (HRD.out (by first | exact rfl | trivial))
    go_wp2_with fail
    refine (HR0.out _).mono ?_
    rintro e w13 ⟨ax, cax, cx, ccx, rfl, FX, hb⟩
    replace FA := FA.below hb
    replace FB := FB.below hb
    replace EA := EA.below hb
    replace EB := EB.below hb
    replace hB := hB.trans (hb.mono hB.size)
    clear hb
    have qEX := below_new w13 (.cells #[.bool b, .slice ax xs.length cax, .slice cx ds.length ccx] 31)
    replace FA := FA.below qEX
    replace FB := FB.below qEX
    replace EA := EA.below qEX
    replace EB := EB.below qEX
    replace FX := FX.below qEX
    replace hB := hB.trans (qEX.mono hB.size)
    clear qEX
    have EX := Box.put (w := w13) (k := (w13.heap.size)) (.cells #[.bool b, .slice ax xs.length cax, .slice cx ds.length ccx] 31) rfl
    have qEF := below_new (w13.alloc (.cells #[.bool b, .slice ax xs.length cax, .slice cx ds.length ccx] 31)) (.cells #[.int .i64 0, .int .i64 0] 48)
    replace FA := FA.below qEF
    replace FB := FB.below qEF
    replace EA := EA.below qEF
    replace EB := EB.below qEF
    replace FX := FX.below qEF
    replace EX := EX.below qEF
    replace hB := hB.trans (qEF.mono hB.size)
    clear qEF
    have EF := Box.put (w := (w13.alloc (.cells #[.bool b, .slice ax xs.length cax, .slice cx ds.length ccx] 31))) (k := (w13.heap.size + 1)) (.cells #[.int .i64 0, .int .i64 0] 48) (by simp)
    obtain ⟨k14a, k14b, k14c, f14a, f14b, f14c⟩ := EA.three
    obtain ⟨k15a, k15b, k15c, f15a, f15b, f15c⟩ := EX.three
    obtain ⟨k16a, k16b, f16a, f16b⟩ := EF.two
    go_wp2_with fail
    clear k14a k14b k14c f14a f14b f14c k15a k15b k15c f15a f15b f15c k16a k16b f16a f16b
    obtain ⟨u17, hname⟩ := nm hB
    rw [hname] at FA FB EA EB FX EX EF hB ⊢
    clear hname
    refine (samer_yes b FX FA (by omega) (by omega)).mono ?_
    rintro e w18 ⟨rfl, hb⟩
    replace FA := FA.below hb
    replace FB := FB.below hb
    replace EA := EA.below hb
    replace EB := EB.below hb
    replace FX := FX.below hb
    replace EX := EX.below hb
    replace EF := EF.below hb
    replace hB := hB.trans (hb.mono hB.size)
    clear hb
    obtain ⟨lo6, hlo6⟩ : ∃ n : Nat, n = 0 := ⟨_, rfl⟩
    clear hlo6
    go_wp2_with fail
    refine (read_in s _ (by omega)).mono ?_
    rintro e w19 ⟨b6, a6, ca6, x6, c6, cc6, d6, er, q, rfl, F6, hc6, l6, hb⟩
    replace FA := FA.below hb
    replace FB := FB.below hb
    replace EA := EA.below hb
    replace EB := EB.below hb
    replace FX := FX.below hb
    replace EX := EX.below hb
    replace EF := EF.below hb
    replace hB := hB.trans (hb.mono hB.size)
    clear hb
    clear FA
    clear FB
    clear EA
    clear EB
    clear FX
    clear EX
    clear EF
    have qE6 := below_new w19 (.cells #[.bool b6, .slice a6 x6.length ca6, .slice c6 d6.length cc6] 31)
    replace F6 := F6.below qE6
    replace hB := hB.trans (qE6.mono hB.size)
    clear qE6
    have E6 := Box.put (w := w19) (k := (w19.heap.size)) (.cells #[.bool b6, .slice a6 x6.length ca6, .slice c6 d6.length cc6] 31) rfl
    have qEQ := below_new (w19.alloc (.cells #[.bool b6, .slice a6 x6.length ca6, .slice c6 d6.length cc6] 31)) (.cells #[.int .i64 er, .int .i64 q] 48)
    replace F6 := F6.below qEQ
    replace E6 := E6.below qEQ
    replace hB := hB.trans (qEQ.mono hB.size)
    clear qEQ
    have EQ := Box.put (w := (w19.alloc (.cells #[.bool b6, .slice a6 x6.length ca6, .slice c6 d6.length cc6] 31))) (k := (w19.heap.size + 1)) (.cells #[.int .i64 er, .int .i64 q] 48) (by simp)
    rcases hc6 with ⟨rfl, hf6, ht6⟩ | he
    · have htx := fun w (F : Fr w18.heap.size w a6 ca6 x6 c6 cc6 d6) => text_ok b6 F l6.1 l6.2 hf6
      rw [ht6] at htx
      have HTX := hide htx
      clear htx
      obtain ⟨k20a, k20b, k20c, f20a, f20b, f20c⟩ := E6.three
      obtain ⟨k21a, k21b, f21a, f21b⟩ := EQ.two
      go_wp2_with fail
      clear k20a k20b k20c f20a f20b f20c k21a k21b f21a f21b
      obtain ⟨u22, hname⟩ := nm hB
      rw [hname] at F6 E6 EQ hB ⊢
      clear hname
      refine (HTX.out _ F6).mono ?_
      rintro e w23 ⟨rfl, hb⟩
      replace F6 := F6.below hb
      replace E6 := E6.below hb
      replace EQ := EQ.below hb
      replace hB := hB.trans (hb.mono hB.size)
      clear hb
      clear HTX
      go_wp2
      go_ret
      exact ⟨rfl, hB⟩
    · obtain ⟨k20a, k20b, f20a, f20b⟩ := EQ.two
      go_wp2
      go_ret
      exact ⟨rfl, hB⟩
  · obtain ⟨lo6, hlo6⟩ : ∃ n : Nat, n = 0 := ⟨_, rfl⟩
    clear hlo6
    go_wp2_with fail
    refine (read_in s _ (by omega)).mono ?_
    rintro e w13 ⟨b6, a6, ca6, x6, c6, cc6, d6, er, q, rfl, F6, hc6, l6, hb⟩
    replace FA := FA.below hb
    replace FB := FB.below hb
    replace EA := EA.below hb
    replace EB := EB.below hb
    replace hB := hB.trans (hb.mono hB.size)
    clear hb
    clear FA
    clear FB
    clear EA
    clear EB
    have qE6 := below_new w13 (.cells #[.bool b6, .slice a6 x6.length ca6, .slice c6 d6.length cc6] 31)
    replace F6 := F6.below qE6
    replace hB := hB.trans (qE6.mono hB.size)
    clear qE6
    have E6 := Box.put (w := w13) (k := (w13.heap.size)) (.cells #[.bool b6, .slice a6 x6.length ca6, .slice c6 d6.length cc6] 31) rfl
    have qEQ := below_new (w13.alloc (.cells #[.bool b6, .slice a6 x6.length ca6, .slice c6 d6.length cc6] 31)) (.cells #[.int .i64 er, .int .i64 q] 48)
    replace F6 := F6.below qEQ
    replace E6 := E6.below qEQ
    replace hB := hB.trans (qEQ.mono hB.size)
    clear qEQ
    have EQ := Box.put (w := (w13.alloc (.cells #[.bool b6, .slice a6 x6.length ca6, .slice c6 d6.length cc6] 31))) (k := (w13.heap.size + 1)) (.cells #[.int .i64 er, .int .i64 q] 48) (by simp)
    rcases hc6 with ⟨rfl, hf6, ht6⟩ | he
    · have htx := fun w (F : Fr w12.heap.size w a6 ca6 x6 c6 cc6 d6) => text_ok b6 F l6.1 l6.2 hf6
      rw [ht6] at htx
      have HTX := hide htx
      clear htx
      obtain ⟨k14a, k14b, k14c, f14a, f14b, f14c⟩ := E6.three
      obtain ⟨k15a, k15b, f15a, f15b⟩ := EQ.two
      go_wp2_with fail
      clear k14a k14b k14c f14a f14b f14c k15a k15b f15a f15b
      obtain ⟨u16, hname⟩ := nm hB
      rw [hname] at F6 E6 EQ hB ⊢
      clear hname
      refine (HTX.out _ F6).mono ?_
      rintro e w17 ⟨rfl, hb⟩
      replace F6 := F6.below hb
      replace E6 := E6.below hb
      replace EQ := EQ.below hb
      replace hB := hB.trans (hb.mono hB.size)
      clear hb
      clear HTX
      go_wp2
      go_ret
      exact ⟨rfl, hB⟩
    · obtain ⟨k14a, k14b, f14a, f14b⟩ := EQ.two
      go_wp2
      go_ret
      exact ⟨rfl, hB⟩
theorem dsame_any {a c p r : Option Addr} {ca cc cp cr : Nat} {xs ds ys es : List Int} {w : World} (b g : Bool) (s : ByteArray) (FA : Fr 0 w a ca xs c cc ds) (FB : Fr 0 w p cp ys r cr es) :
    Calls Tryd.prog 5 #[.agg #[.bool b, .slice a xs.length ca, .slice c ds.length cc], .agg #[.bool g, .slice p ys.length cp, .slice r es.length cr], .string s] w fun e w' => e = .returned (.bool true) ∧ Below w.heap.size w w' := by
  by_cases k1 : 10 < xs.length ∨ 10 < ds.length
  · exact dsame_far1 b g s FA FB k1
  · by_cases k2 : 10 < ys.length ∨ 10 < es.length
    · exact dsame_far2 b g s FA FB (by omega) (by omega) k2
    · by_cases k3 : 200 < s.size
      · exact dsame_far3 b g s FA FB (by omega) (by omega) (by omega) (by omega) k3
      · exact dsame_main b g s FA FB (by omega) (by omega) (by omega) (by omega) (by omega)
end Go.Proofs.YtfcpaejeppedoaaDoor
