/-
  Joined: DPo DPl DPq DPr DPk DFrac.
-/
import Derived.Test.YtfcpaejeppedoaaGreatDoorJDPm
import Derived.Test.YtfcpaejeppedoaaGreatDoorJDPc
import Derived.Test.YtfcpaejeppedoaaGreatDoorRoundHeld
import Derived.Test.YtfcpaejeppedoaaGreatDoorJSigB
import Derived.Test.YtfcpaejeppedoaaGreatDoorJEnds
import Derived.Test.YtfcpaejeppedoaaGreatDoorKit
import Derived.Test.YtfcpaejeppedoaaGreatDoorJDigVp2
namespace Go.Proofs.YtfcpaejeppedoaaGreatDoor
open Go.RowKit Go.Shelf
attribute [local go_sem] Oper.semAt_some
def splitW (w : World) (s : ByteArray) : World := ((w.alloc (.cells #[.string s] 9)).alloc (.cells #[.string ⟨#[47]⟩] 9)).alloc (.cells #[.int .i64 0] 3)
set_option maxHeartbeats 1000000 in
theorem splitSeq_in (d : Nat) (s : ByteArray) (w : World) :
    CallsIn Fence.wide d Tryz.prog 87 #[.string s, .string ⟨#[47]⟩, .int .i64 0] w fun e w' => e = .returned (.func (.func 99) #[] #[.pointer (some ⟨w.heap.size + 1, 0, none⟩), .pointer (some ⟨w.heap.size, 0, none⟩), .pointer (some ⟨w.heap.size + 2, 0, none⟩)]) ∧ w' = splitW w s := by
  refine callsIn_of_wp Tryz.func87 rfl trivial ?_ rfl
  simp only [Tryz.ntmps87, List.size_toArray, List.length_cons, List.length_nil, Nat.reduceAdd, Nat.reduceSub, Array.replicate_succ, Array.replicate_zero, List.push_toArray, List.append_toArray, List.nil_append, List.cons_append]
  gi_wp2
  go_ret
  exact ⟨by simp, rfl⟩
set_option maxHeartbeats 1000000 in
theorem SplitSeq_in (d : Nat) (hd : 1 ≤ d) (s : ByteArray) (w : World) :
    CallsIn Fence.wide d Tryz.prog 69 #[.string s, .string ⟨#[47]⟩] w fun e w' => e = .returned (.func (.func 99) #[] #[.pointer (some ⟨w.heap.size + 1, 0, none⟩), .pointer (some ⟨w.heap.size, 0, none⟩), .pointer (some ⟨w.heap.size + 2, 0, none⟩)]) ∧ w' = splitW w s := by
  refine callsIn_of_wp Tryz.func69 rfl trivial ?_ rfl
  simp only [Tryz.ntmps69, List.size_toArray, List.length_cons, List.length_nil, Nat.reduceAdd, Nat.reduceSub, Array.replicate_succ, Array.replicate_zero, List.push_toArray, List.append_toArray, List.nil_append, List.cons_append]
  gi_wp2_with (refine ⟨trivial, ?_⟩; gi_at_call 87; refine (splitSeq_in _ s w).mono ?_; rintro e w1 ⟨rfl, rfl⟩)
  go_ret
  exact ⟨rfl, rfl⟩
theorem split_turns (d : Nat) (hd : 1 ≤ d) (s : ByteArray) (hs : s.size ≤ 10000) (w : World) :
    Turning Fence.wide d Tryz.prog 99 #[.pointer (some ⟨w.heap.size + 1, 0, none⟩), .pointer (some ⟨w.heap.size, 0, none⟩), .pointer (some ⟨w.heap.size + 2, 0, none⟩)] (fun x : ByteArray => #[Value.string x]) w.heap.size
      (fun pre x => GotAt (octs s) ((pre ++ [x]).map octs)) (fun xs => LastAt (octs s) (xs.map octs)) (fun pre => GotAt (octs s) (pre.map octs)) (splitW w s) := fun l J Jx W hW _ _ hJB hY h0 _ => by
  have E0 : Box (splitW w s) w.heap.size (.cells #[.string s] 9) := ((Box.put _ rfl).below (below_new _ _)).below (below_new _ _)
  have E1 : Box (splitW w s) (w.heap.size + 1) (.cells #[.string ⟨#[47]⟩] 9) := (Box.put _ (by simp)).below (below_new _ _)
  have E2 : Box (splitW w s) (w.heap.size + 2) (.cells #[.int .i64 0] 3) := Box.put _ (by simp)
  exact split1_in d hd l w.heap.size s hs J Jx hJB hY W (E0.below hW) (E1.below hW) (E2.below hW) h0
theorem ownn_kept {lo : Nat} {W W' : World} {row : Option Nat} {v : Value} {vs : List Value} (h : OwnN lo W v vs) (hg : W.grownBy W' row) (hr : ∀ r, row = some r → ∃ o : Obj, W.heap[r]? = some o ∧ o.isCells = false) : OwnN lo W' v vs := by
  refine h.kept hg ?_
  rcases h.2 with ⟨rfl, _⟩ | ⟨g, cap, cur, rfl, _, hgb, _⟩
  · exact .inl rfl
  · refine .inr fun e' => ?_
    obtain ⟨o, ho, hc⟩ := hr g (by simpa [Value.ownBlock] using e'.symm)
    rw [hgb] at ho; cases ho; cases hc
theorem Seg.lowset {lo : Nat} {W : World} {sv : Value} {zs : List Int} (h : Seg lo W sv zs) {k : Nat} (hk : k < lo) (u : Value) : Seg lo (W.setCell ⟨k, 0, none⟩ u) sv zs :=
  seg_keep h (fun j h1 _ => Below.heap_setCell _ _ _ _ (by show j ≠ k; omega)) (by simp [World.setCell])
def NumsSaid (R : List Int) (w : World) (e : Ending) (w' : World) : Prop :=
  ∃ (pv : Value) (ar : Bool), e = .returned (.tuple #[pv, .bool ar]) ∧ Below w.heap.size w w' ∧
    ((ar = false ∧ NoNum R) ∨ (ar = true ∧ ∃ (vs : List Value) (xs : List (List Int)), OwnN w.heap.size w' pv vs ∧ Kids w.heap.size w' pv xs vs ∧ LastAt R xs))
set_option maxRecDepth 100000 in
set_option maxHeartbeats 4000000 in
theorem numbers_in (s : ByteArray) (w : World) (hs : s.size ≤ 1000) : Calls Tryz.prog 46 #[.string s] w fun e w' => NumsSaid (octs s) w e w' := by
  refine (callsIn_wide (n := 4)).1 ?_
  refine callsIn_of_wp_marks Tryz.func46 rfl trivial ?_ rfl
  simp only [Tryz.ntmps46, List.size_toArray, List.length_cons, List.length_nil, Nat.reduceAdd, Nat.reduceSub, Array.replicate_succ, Array.replicate_zero, List.push_toArray, List.append_toArray, List.nil_append, List.cons_append]
  gi_wp2_with fail
  have bP0 := (Boxed.new w 73 (.slice none 0 0)).alloc (.cells #[.bool false] 4)
  have bA0 := Boxed.new (w.alloc (.cells #[.slice none 0 0] 73)) 4 (.bool false)
  have hB0 : Below w.heap.size w ((w.alloc (.cells #[.slice none 0 0] 73)).alloc (.cells #[.bool false] 4)) := ((Below.refl _ w).alloc (Nat.le_refl _) _).alloc (by simp) _
  rw [World.size_alloc] at bA0
  obtain ⟨w1, hw1⟩ : ∃ w1, (w.alloc (.cells #[.slice none 0 0] 73)).alloc (.cells #[.bool false] 4) = w1 := ⟨_, rfl⟩
  have hsz1 : w1.heap.size = w.heap.size + 2 := by rw [← hw1]; simp
  rw [hw1] at bP0 bA0 hB0 ⊢
  clear hw1
  have hT := split_turns 3 (by omega) s (by omega) w1
  have bP2 : Boxed (splitW w1 s) w.heap.size 73 (.slice none 0 0) := ((bP0.alloc _).alloc _).alloc _
  have bA2 : Boxed (splitW w1 s) (w.heap.size + 1) 4 (.bool false) := ((bA0.alloc _).alloc _).alloc _
  have hB2 : Below w.heap.size w (splitW w1 s) := ((hB0.alloc (by omega) _).alloc (by simp; omega) _).alloc (by simp; omega) _
  have hsp := SplitSeq_in 3 (by omega) s w1
  have hsz2 : (splitW w1 s).heap.size = w.heap.size + 5 := by unfold splitW; simp [hsz1]
  rw [hsz1] at hT hsp
  refine ⟨trivial, ?_⟩
  refine hsp.mono ?_
  rintro e w2 ⟨rfl, rfl⟩
  obtain ⟨w2, hw2⟩ : ∃ w2, splitW w1 s = w2 := ⟨_, rfl⟩
  rw [hw2] at hT bP2 bA2 hB2 hsz2 ⊢
  clear hw2 hB0 bP0 bA0 hsz1 hsp
  have HSZ := hide hsz2
  clear hsz2
  gi_wp2_with fail
  refine wpIn_rangeFunc_turning rfl (by omega) (gf := 99) (lb := #[.pointer (some ⟨w.heap.size + 2 + 1, 0, none⟩), .pointer (some ⟨w.heap.size + 2, 0, none⟩), .pointer (some ⟨w.heap.size + 2 + 2, 0, none⟩)]) rfl trivial (enters_of Tryz.func99 (by kernel_rfl) rfl)
    hT (Below.refl _ _) (by have := HSZ.out; omega) (fun _ => rfl)
    (fun pre W => ∃ (pv : Value) (vs : List Value) (ar : Bool), Boxed W w.heap.size 73 pv ∧ OwnN w2.heap.size W pv vs ∧ Kids w2.heap.size W pv (pre.map octs) vs ∧ Boxed W (w.heap.size + 1) 4 (.bool ar) ∧ (pre ≠ [] → ar = true) ∧ Below w.heap.size w W ∧ w2.heap.size ≤ W.heap.size)
    (fun c pre W => c = .exit 0 ∧ (∃ (pa : Option Addr) (pn pc : Nat), Boxed W w.heap.size 73 (.slice pa pn pc)) ∧ Boxed W (w.heap.size + 1) 4 (.bool false) ∧ NoNum (octs s) ∧ Below w.heap.size w W)
    (fun pre A B row hs hg hr => by
      obtain ⟨pv, vs, ar, h1, h2, h3, h4, h5, h6, h7⟩ := hs
      have hr' := fun r e => (hr r e).2
      exact ⟨pv, vs, ar, boxed_own w.heap.size 73 (fun _ : Unit => pv) () A B row h1 hg hr', ownn_kept h2 hg hr', h3.to (fun sv zs S => S.kept hg hr'), boxed_own (w.heap.size + 1) 4 (fun _ : Unit => .bool ar) () A B row h4 hg hr', h5, ownFrom_below (Nat.le_refl _) hB2.size pre A B row h6 hg hr, Nat.le_trans h7 hg.size⟩)
    (fun c pre A B row hs hg hr => by
      obtain ⟨h0, ⟨pa, pn, pc, h1⟩, h2, h3, h4⟩ := hs
      have hr' := fun r e => (hr r e).2
      exact ⟨h0, ⟨pa, pn, pc, boxed_own w.heap.size 73 (fun _ : Unit => .slice pa pn pc) () A B row h1 hg hr'⟩, boxed_own (w.heap.size + 1) 4 (fun _ : Unit => .bool false) () A B row h2 hg hr', h3, ownFrom_below (Nat.le_refl _) hB2.size pre A B row h4 hg hr⟩)
    (fun pre V v hs => by
      obtain ⟨pv, vs, ar, h1, h2, h3, h4, h5, h6, h7⟩ := hs
      exact ⟨pv, vs, ar, h1.other (by omega) v, ownsRow_setCell_below h2 (by have := HSZ.out; show w.heap.size + 2 < w2.heap.size; omega) v, h3.to (fun sv zs S => S.lowset (by have := HSZ.out; show w.heap.size + 2 < w2.heap.size; omega) v), h4.other (by omega) v, h5, h6.setCell (p := ⟨w.heap.size + 2, 0, none⟩) (by show w.heap.size ≤ w.heap.size + 2; omega) v, by simpa [World.setCell] using h7⟩)
    ⟨.slice none 0 0, [], false, bP2, ownn_nil _ _, .zero, bA2, fun h => absurd rfl h, hB2, Nat.le_refl _⟩
    (fun x => { tmps := #[.string s, undef, .pointer (some ⟨w.heap.size, 0, none⟩), .pointer (some ⟨w.heap.size + 1, 0, none⟩), .string x, undef, undef, .string s, .func (.func 99) #[] #[.pointer (some ⟨w.heap.size + 2 + 1, 0, none⟩), .pointer (some ⟨w.heap.size + 2, 0, none⟩), .pointer (some ⟨w.heap.size + 2 + 2, 0, none⟩)], .string x, undef, undef, undef, undef, undef, undef, undef, undef, undef, undef, undef, undef, undef, undef, undef, undef, undef, undef, undef, undef, undef], defers := [] }) ?assign ?body ?done ?stop
  case assign =>
    intro l x W K hK
    gi_wp2
    exact hK
  case body =>
    rintro l pre x W ⟨pv, vs, ar, bP, hO, hK, bA, har, hB, hsz⟩ hgot
    have hpl : (pre.map octs).length ≤ 2 := hK.len.2
    have hxs : x.size ≤ 1000 := by
      have h1 := got_len (R := octs s) (x := octs x) (pre := pre.map octs) (by rw [List.map_append] at hgot; exact hgot)
      rw [octs_len, octs_len] at h1
      omega
    have hget := get_any x W (Or.inl hxs)
    have HGOT : Hid (GotAt (octs s) (pre.map octs ++ [octs x])) := by rw [List.map_append] at hgot; exact hgot
    clear hgot
    gi_wp2_with fail
    refine ⟨trivial, ?_⟩
    refine (CallsIn.inRound l (callsIn_wide.2 hget)).mono ?_
    rintro e W1 ⟨a1, c1, z, er, q, rfl, S, hi, hle, hb1⟩
    have sz1 := hb1.size
    have h5 := HSZ.out
    have bP1 := Boxed.belowed bP hb1 bP.lt
    have bA1 := Boxed.belowed bA hb1 bA.lt
    have F1 : Box (W1.alloc (.cells #[.int .i64 er, .int .i64 q] 35)) W1.heap.size (.cells #[.int .i64 er, .int .i64 q] 35) := Box.put _ rfl
    have bPf := bP1.alloc (.cells #[.int .i64 er, .int .i64 q] 35)
    have bAf := bA1.alloc (.cells #[.int .i64 er, .int .i64 q] 35)
    have hbf : Below W.heap.size W (W1.alloc (.cells #[.int .i64 er, .int .i64 q] 35)) := hb1.alloc sz1 _
    have hKf : KeepsFrom w2.heap.size W (W1.alloc (.cells #[.int .i64 er, .int .i64 q] 35)) := (keepsFrom_below hb1).trans ((KeepsOthers.alloc _ _).from _)
    have Sf := S.below (below_new W1 (.cells #[.int .i64 er, .int .i64 q] 35))
    obtain ⟨V, hV⟩ : ∃ V, W1.alloc (.cells #[.int .i64 er, .int .i64 q] 35) = V := ⟨_, rfl⟩
    have hVs : W1.heap.size < V.heap.size := by rw [← hV]; simp
    rw [hV] at F1 bPf bAf hbf hKf Sf
    obtain ⟨k0, k1, f0, f1⟩ := F1.two
    have hcP := bPf.cell
    have hfP := bPf.frozen
    have hcA := bAf.cell
    have hfA := bAf.frozen
    obtain ⟨pa, pc, rfl⟩ := ownn_form hO
    have hVw : Below w.heap.size w V := hB.trans (hbf.mono hB.size)
    have hkf : ∀ k, w.heap.size + 2 ≤ k → k < w.heap.size + 2 + 3 → V.heap[k]? = W.heap[k]? := fun k h1 h2 => hbf.block k (by omega)
    have hvl : vs.length ≤ 2 := by rw [hK.len.1]; exact hpl
    have HLT : Hid ((∃ e, getP (octs x) = .error e) ∨ ¬ vs.length < 2 → NoNum (octs s)) := fun h => hK.bad HGOT.out h
    rcases hi.split with ⟨hok, hn, rfl, rfl⟩ | ⟨hbad, rfl⟩
    · by_cases h2 : vs.length < 2
      · have h2i : decide ((vs.length : Int) < 2) = true := decide_eq_true (by omega)
        have bA4 := bAf.set (.bool true)
        have bP4 := bPf.other (B' := w.heap.size + 1) (by omega) (.bool true)
        have hB4 := hVw.setCell (p := ⟨w.heap.size + 1, 0, none⟩) (by show w.heap.size ≤ w.heap.size + 1; omega) (.bool true)
        have hK4 := hKf.trans ((KeepsOthers.setCell V ⟨w.heap.size + 1, 0, none⟩ (.bool true)).from w2.heap.size)
        have hO4 : OwnN w2.heap.size (V.setCell ⟨w.heap.size + 1, 0, none⟩ (.bool true)) (.slice pa vs.length pc) vs := ownsRow_setCell_below (ownn_below hO hbf) (by show w.heap.size + 1 < w2.heap.size; omega) _
        have hz4 : (V.setCell ⟨w.heap.size + 1, 0, none⟩ (.bool true)).heap.size = V.heap.size := by simp [World.setCell]
        have hs4 : ∀ k, k ≠ w.heap.size + 1 → (V.setCell ⟨w.heap.size + 1, 0, none⟩ (.bool true)).heap[k]? = V.heap[k]? := fun k hk => Below.heap_setCell _ _ _ _ hk
        obtain ⟨X, hX⟩ : ∃ X, V.setCell ⟨w.heap.size + 1, 0, none⟩ (.bool true) = X := ⟨_, rfl⟩
        have hcA4 := bA4.cell
        have hfA4 := bA4.frozen
        have hcP4 := bP4.cell
        have hfP4 := bP4.frozen
        rw [hX] at bA4 bP4 hB4 hK4 hO4 hz4 hs4
        obtain ⟨b', c', Y, hap, hO5, hg5, hat⟩ := ownn_append hO4 a1 z.length c1 (by omega) (by omega)
        have hnr : some w.heap.size ≠ (Value.slice pa vs.length pc).ownBlock := fun e => by have := (hO4.lt w.heap.size e.symm).1; omega
        have hnr1 : some (w.heap.size + 1) ≠ (Value.slice pa vs.length pc).ownBlock := fun e => by have := (hO4.lt _ e.symm).1; omega
        have bP5 := (bP4.alloc (.cells #[.slice a1 z.length c1] 23)).kept hg5 hnr
        have bA5 := (bA4.alloc (.cells #[.slice a1 z.length c1] 23)).kept hg5 hnr1
        have hB5 : Below w.heap.size w Y := (hB4.alloc hB4.size _).grown hg5 (by simp; have := hB4.size; omega) (fun k hk => by have := (hO4.lt k hk).1; omega)
        have hK5 : KeepsFrom w2.heap.size W (Y.setCell ⟨w.heap.size, 0, none⟩ (.slice (some ⟨b', 0, none⟩) (vs.length + 1) c')) := ((hK4.trans ((KeepsOthers.alloc X _).from _)).trans ((KeepsOthers.of_grownBy hg5 (ownn_cells hO4 _)).from _)).trans ((KeepsOthers.setCell _ _ _).from _)
        have hY1 : ∀ b, b ≠ w.heap.size → b ≠ w.heap.size + 1 → b < V.heap.size → (Value.slice pa vs.length pc).ownBlock ≠ some b → (Y.setCell ⟨w.heap.size, 0, none⟩ (.slice (some ⟨b', 0, none⟩) (vs.length + 1) c')).heap[b]? = V.heap[b]? := fun b h0 h1 h2 h3 =>
          (Below.heap_setCell _ _ _ _ (by show b ≠ w.heap.size; exact h0)).trans ((hg5.block b (by simp; omega) (fun e => h3 e.symm)).trans ((Below.heap_alloc _ _ _ (by omega)).trans (hs4 b h1)))
        have hYs : V.heap.size ≤ (Y.setCell ⟨w.heap.size, 0, none⟩ (.slice (some ⟨b', 0, none⟩) (vs.length + 1) c')).heap.size := by
          have := hg5.size
          simp [World.setCell] at this ⊢
          omega
        have hK6 : Kids w2.heap.size (Y.setCell ⟨w.heap.size, 0, none⟩ (.slice (some ⟨b', 0, none⟩) (vs.length + 1) c')) (.slice (some ⟨b', 0, none⟩) (vs.length + 1) c') ((pre ++ [x]).map octs) (vs ++ [.slice a1 z.length c1]) := by
          rw [List.map_append]
          refine hK.next h2 hO hsz hbf Sf hn hok hle (fun b h0 h1 h3 => hY1 b (by omega) (by omega) h1 h3) hYs ?_
          rcases hat with h | h
          · exact Or.inl h
          · exact Or.inr ⟨b', rfl, by omega⟩
        have hK7 : ∀ k, w.heap.size + 2 ≤ k → k < w.heap.size + 2 + 3 → (Y.setCell ⟨w.heap.size, 0, none⟩ (.slice (some ⟨b', 0, none⟩) (vs.length + 1) c')).heap[k]? = W.heap[k]? := fun k h0 h1 =>
          (hY1 k (by omega) (by omega) (by omega) (fun e => by have := (hO.lt k e).1; omega)).trans (hkf k h0 h1)
        have hP6 := bP5.set (.slice (some ⟨b', 0, none⟩) (vs.length + 1) c')
        have hA6 := bA5.other (B' := w.heap.size) (by omega) (.slice (some ⟨b', 0, none⟩) (vs.length + 1) c')
        have hO6 : OwnN w2.heap.size (Y.setCell ⟨w.heap.size, 0, none⟩ (.slice (some ⟨b', 0, none⟩) (vs.length + 1) c')) (.slice (some ⟨b', 0, none⟩) (vs.length + 1) c') (vs ++ [.slice a1 z.length c1]) := ownsRow_setCell_below hO5 (by show w.heap.size < w2.heap.size; omega) _
        have hB6 := hB5.setCell (p := ⟨w.heap.size, 0, none⟩) (Nat.le_refl _) (.slice (some ⟨b', 0, none⟩) (vs.length + 1) c')
        have H1 := hide hK5
        have H2 := hide hK6
        have H3 := hide hK7
        have H4 := hide hP6
        have H5 := hide hA6
        have H6 := hide hO6
        have H7 := hide hB6
        have H8 : Hid (w2.heap.size ≤ (Y.setCell ⟨w.heap.size, 0, none⟩ (.slice (some ⟨b', 0, none⟩) (vs.length + 1) c')).heap.size) := by rw [Hid]; omega
        have hcP5 := bP5.cell
        have hfP5 := bP5.frozen
        have hXs : X.heap.size = W1.heap.size + 1 := by rw [hz4, ← hV]; simp
        rw [hXs, ← hX] at hap
        clear hXs hX hK5 hK6 hK7 hP6 hA6 hO6 hB6 hYs hY1 hB5 bA5 bP5 hg5 hat hO5 hnr hnr1 hs4 hz4 hO4 hK4 hB4 bP4 bA4 hi hok hget HLT h2 hkf hK hO har hKf hbf hVw Sf S hle hcP4 hfP4 hn
        rw [← hV] at hcP hfP hcA hfA k0 k1 f0 f1 hcA4 hfA4 hap
        clear hV
        gi_wp2_with (gi_at_builtin; go_loud (refine wpListIn_append_run _ rfl _ _ _ _ rfl _ _ rfl rfl _ _ hap ?_))
        exact ⟨H1.out, H3.out, _, _, true, H4.out, H6.out, H2.out, H5.out, fun _ => rfl, H7.out, H8.out⟩
      · have HNO := hide (HLT.out (Or.inr h2))
        have h2i : decide ((vs.length : Int) < 2) = false := decide_eq_false (by omega)
        have bA4 := hide (bAf.set (.bool false))
        have bP4 := hide (bPf.other (B' := w.heap.size + 1) (by omega) (.bool false))
        have hB4 := hide (hVw.setCell (p := ⟨w.heap.size + 1, 0, none⟩) (by show w.heap.size ≤ w.heap.size + 1; omega) (.bool false))
        have hK4 := hide (hKf.trans ((KeepsOthers.setCell V ⟨w.heap.size + 1, 0, none⟩ (.bool false)).from _))
        have hcA4 := (bA4.out).cell
        have hfA4 := (bA4.out).frozen
        clear hi hok hget HLT h2 hkf hK hO har hKf hbf hVw Sf S hle
        rw [← hV] at hcP hfP hcA hfA k0 k1 f0 f1 hcA4 hfA4
        have HV := hide hV
        clear hV
        gi_wp2
        rw [HV.out]
        exact ⟨hK4.out, rfl, ⟨_, _, _, bP4.out⟩, bA4.out, HNO.out, hB4.out⟩
    · have HNO := hide (HLT.out (Or.inl ⟨_, hbad⟩))
      have her : (er == 0) = false := beq_eq_false_iff_ne.2 (getP_err hbad)
      have bA4 := hide (bAf.set (.bool false))
      have bP4 := hide (bPf.other (B' := w.heap.size + 1) (by omega) (.bool false))
      have hB4 := hide (hVw.setCell (p := ⟨w.heap.size + 1, 0, none⟩) (by show w.heap.size ≤ w.heap.size + 1; omega) (.bool false))
      have hK4 := hide (hKf.trans ((KeepsOthers.setCell V ⟨w.heap.size + 1, 0, none⟩ (.bool false)).from _))
      have hcA4 := (bA4.out).cell
      have hfA4 := (bA4.out).frozen
      clear hi hbad hget HLT hkf hK hO har hKf hbf hVw Sf S hle
      rw [← hV] at hcP hfP hcA hfA k0 k1 f0 f1 hcA4 hfA4
      have HV := hide hV
      clear hV
      gi_wp2
      rw [HV.out]
      exact ⟨hK4.out, rfl, ⟨_, _, _, bP4.out⟩, bA4.out, HNO.out, hB4.out⟩
  case done =>
    rintro D ys W hD hlast ⟨pv, vs, ar, bP, hO, hK, bA, har, hB, hsz⟩ hdf
    have hne : ys ≠ [] := fun e => last_ne (by rw [e] at hlast; exact hlast)
    obtain rfl : ar = true := har hne
    obtain ⟨pa, pc, rfl⟩ := ownn_form hO
    have HL := hide hlast
    have hcP := bP.cell
    have hfP := bP.frozen
    have hcA := bA.cell
    have hfA := bA.frozen
    clear hlast har hne
    gi_wp2
    gi_region
    have hdz : ((W.setCell ⟨w.heap.size, 0, none⟩ (.slice pa vs.length pc)).setCell ⟨w.heap.size + 1, 0, none⟩ (.bool true)).drew.heap[D]? = some (.deferred (some [])) := by
      have h5 := HSZ.out
      exact (Below.heap_setCell _ _ _ _ (by show D ≠ w.heap.size + 1; omega)).trans ((Below.heap_setCell _ _ _ _ (by show D ≠ w.heap.size; omega)).trans hdf)
    have bPz : Boxed ((W.setCell ⟨w.heap.size, 0, none⟩ (.slice pa vs.length pc)).setCell ⟨w.heap.size + 1, 0, none⟩ (.bool true)).drew w.heap.size 73 (.slice pa vs.length pc) := (bP.set (.slice pa vs.length pc)).other (B' := w.heap.size + 1) (by omega) (.bool true)
    have bAz : Boxed ((W.setCell ⟨w.heap.size, 0, none⟩ (.slice pa vs.length pc)).setCell ⟨w.heap.size + 1, 0, none⟩ (.bool true)).drew (w.heap.size + 1) 4 (.bool true) := (bA.other (B' := w.heap.size) (by omega) (.slice pa vs.length pc)).set (.bool true)
    have hBz : Below w.heap.size w ((W.setCell ⟨w.heap.size, 0, none⟩ (.slice pa vs.length pc)).setCell ⟨w.heap.size + 1, 0, none⟩ (.bool true)).drew := ((hB.setCell (p := ⟨w.heap.size, 0, none⟩) (Nat.le_refl _) _).setCell (p := ⟨w.heap.size + 1, 0, none⟩) (by show w.heap.size ≤ w.heap.size + 1; omega) _).drew
    have hOz : OwnN w2.heap.size ((W.setCell ⟨w.heap.size, 0, none⟩ (.slice pa vs.length pc)).setCell ⟨w.heap.size + 1, 0, none⟩ (.bool true)).drew (.slice pa vs.length pc) vs := (ownsRow_setCell_below (ownsRow_setCell_below hO (a := ⟨w.heap.size, 0, none⟩) (by have := HSZ.out; show w.heap.size < w2.heap.size; omega) _) (a := ⟨w.heap.size + 1, 0, none⟩) (by have := HSZ.out; show w.heap.size + 1 < w2.heap.size; omega) _).drew
    have hKz : Kids w2.heap.size ((W.setCell ⟨w.heap.size, 0, none⟩ (.slice pa vs.length pc)).setCell ⟨w.heap.size + 1, 0, none⟩ (.bool true)).drew (.slice pa vs.length pc) (ys.map octs) vs := hK.to (fun sv zs S => ((S.lowset (by have := HSZ.out; omega) _).lowset (by have := HSZ.out; omega) _).drew)
    obtain ⟨Z, hZ⟩ : ∃ Z, ((W.setCell ⟨w.heap.size, 0, none⟩ (.slice pa vs.length pc)).setCell ⟨w.heap.size + 1, 0, none⟩ (.bool true)).drew = Z := ⟨_, rfl⟩
    rw [hZ] at hdz bPz bAz hBz hOz hKz ⊢
    have hcPz := bPz.cell
    have hcAz := bAz.cell
    clear hZ hcP hfP hcA hfA bP bA hO hK hdf hB
    gi_wp2
    refine ⟨by simp, .inl ⟨_, _, rfl, run_takeDeferred hdz, ?_⟩⟩
    have hDn : some w.heap.size ≠ some D := fun e => by have := HSZ.out; injection e with e; omega
    have hDn1 : some (w.heap.size + 1) ≠ some D := fun e => by have := HSZ.out; injection e with e; omega
    have c0 := (bPz.kept (grownBy_putObj' Z D (.deferred none)) hDn).cell
    have c1 := (bAz.kept (grownBy_putObj' Z D (.deferred none)) hDn1).cell
    have hr : ∀ r, some D = some r → ∃ o : Obj, Z.heap[r]? = some o ∧ o.isCells = false := fun r e => by cases e; exact ⟨_, hdz, rfl⟩
    refine ⟨.tuple #[.slice pa vs.length pc, .bool true], by simp [results, Tryz.f46, go_sem, c0, c1], _, true, rfl, hBz.trans (belowK_b (w := w) (Nat.le_refl _) Z D _ _ (by have := HSZ.out; omega) hdz rfl rfl), Or.inr ⟨rfl, vs, ys.map octs, (ownn_kept hOz (grownBy_putObj' Z D (.deferred none)) hr).mono (by have := HSZ.out; omega), (hKz.to (fun sv zs S => S.kept (grownBy_putObj' Z D (.deferred none)) hr)).mono (by have := HSZ.out; omega), HL.out⟩⟩
  case stop =>
    rintro D c pre W hD _ ⟨rfl, ⟨pa, pn, pc, bP⟩, bA, hno, hB⟩ hdf
    have HNO := hide hno
    have hcP := bP.cell
    have hfP := bP.frozen
    have hcA := bA.cell
    have hfA := bA.frozen
    clear hno
    gi_wp2
    gi_region
    have hdz : ((W.setCell ⟨w.heap.size, 0, none⟩ (.slice pa pn pc)).setCell ⟨w.heap.size + 1, 0, none⟩ (.bool false)).drew.heap[D]? = some (.deferred (some [])) := by
      have h5 := HSZ.out
      exact (Below.heap_setCell _ _ _ _ (by show D ≠ w.heap.size + 1; omega)).trans ((Below.heap_setCell _ _ _ _ (by show D ≠ w.heap.size; omega)).trans hdf)
    have bPz : Boxed ((W.setCell ⟨w.heap.size, 0, none⟩ (.slice pa pn pc)).setCell ⟨w.heap.size + 1, 0, none⟩ (.bool false)).drew w.heap.size 73 (.slice pa pn pc) := (bP.set (.slice pa pn pc)).other (B' := w.heap.size + 1) (by omega) (.bool false)
    have bAz : Boxed ((W.setCell ⟨w.heap.size, 0, none⟩ (.slice pa pn pc)).setCell ⟨w.heap.size + 1, 0, none⟩ (.bool false)).drew (w.heap.size + 1) 4 (.bool false) := (bA.other (B' := w.heap.size) (by omega) (.slice pa pn pc)).set (.bool false)
    have hBz : Below w.heap.size w ((W.setCell ⟨w.heap.size, 0, none⟩ (.slice pa pn pc)).setCell ⟨w.heap.size + 1, 0, none⟩ (.bool false)).drew := ((hB.setCell (p := ⟨w.heap.size, 0, none⟩) (Nat.le_refl _) _).setCell (p := ⟨w.heap.size + 1, 0, none⟩) (by show w.heap.size ≤ w.heap.size + 1; omega) _).drew
    obtain ⟨Z, hZ⟩ : ∃ Z, ((W.setCell ⟨w.heap.size, 0, none⟩ (.slice pa pn pc)).setCell ⟨w.heap.size + 1, 0, none⟩ (.bool false)).drew = Z := ⟨_, rfl⟩
    rw [hZ] at hdz bPz bAz hBz ⊢
    have hcPz := bPz.cell
    have hcAz := bAz.cell
    clear hZ hcP hfP hcA hfA bP bA hdf hB
    gi_wp2
    refine ⟨by simp, .inl ⟨_, _, rfl, run_takeDeferred hdz, ?_⟩⟩
    have hDn : some w.heap.size ≠ some D := fun e => by have := HSZ.out; injection e with e; omega
    have hDn1 : some (w.heap.size + 1) ≠ some D := fun e => by have := HSZ.out; injection e with e; omega
    have c0 := (bPz.kept (grownBy_putObj' Z D (.deferred none)) hDn).cell
    have c1 := (bAz.kept (grownBy_putObj' Z D (.deferred none)) hDn1).cell
    exact ⟨.tuple #[.slice pa pn pc, .bool false], by simp [results, Tryz.f46, go_sem, c0, c1], _, false, rfl, hBz.trans (belowK_b (w := w) (Nat.le_refl _) Z D _ _ (by have := HSZ.out; omega) hdz rfl rfl), Or.inl ⟨rfl, HNO.out⟩⟩
end Go.Proofs.YtfcpaejeppedoaaGreatDoor
namespace Go.Proofs.YtfcpaejeppedoaaGreatDoor
open Go.RowKit
set_option maxRecDepth 100000 in
set_option maxHeartbeats 1000000 in
theorem done_any {lo : Nat} {a : Option Addr} {la ca : Nat} {xs : List Int} {w : World} (ha : Seg lo w (.slice a la ca) xs) (hla : xs.length ≤ 1000) :
    Calls Tryz.prog 18 #[.slice a la ca] w fun e w' => e = .returned (.bool (val xs == 1)) ∧ Below w.heap.size w w' := by
  by_cases h : val xs < 18446744073709551616
  · have ho := one_yes ha (by omega) h
    generalize val xs = x at *
    go_enter Tryz.func18, Tryz.ntmps18
    go_wp2_with fail
    refine ho.mono ?_
    rintro e w1 ⟨rfl, hb1⟩
    clear ho
    go_wp2
    go_ret
    exact ⟨rfl, hb1⟩
  · have ho := one_no ha (by omega) (by omega)
    have HF : Hid ((val xs == 1) = false) := beq_eq_false_iff_ne.2 (by omega)
    clear h
    go_enter Tryz.func18, Tryz.ntmps18
    go_wp2_with fail
    refine ho.mono ?_
    rintro e w1 ⟨rfl, hb1⟩
    clear ho
    go_wp2
    go_ret
    rw [HF.out]
    exact ⟨rfl, hb1⟩
set_option maxRecDepth 100000 in
set_option maxHeartbeats 4000000 in
theorem text_no {lo : Nat} {a c : Option Addr} {ca cc : Nat} {xs ds : List Int} {w : World} (b : Bool) (FA : Fr lo w a ca xs c cc ds) (hl : xs.length ≤ 1000) (hl2 : ds.length ≤ 1000) (hf : formR b xs ds ≠ 0) :
    Calls Tryz.prog 7 #[.agg #[.bool b, .slice a xs.length ca, .slice c ds.length cc]] w fun e w' => e = .returned (.tuple #[.string (strOfNums []), .int .i64 6]) ∧ Below w.heap.size w w' := by
  have hq := below_new w (.cells #[.bool b, .slice a xs.length ca, .slice c ds.length cc] 27)
  have EA := Box.put (w := w) (k := (w.heap.size)) (.cells #[.bool b, .slice a xs.length ca, .slice c ds.length cc] 27) rfl
  replace FA := FA.below hq
  obtain ⟨x, hx⟩ : ∃ x, formR b xs ds = x := ⟨_, rfl⟩
  rw [hx] at hf
  have hk := pcheck_any b FA hl hl2
  rw [hx] at hk
  have hx0 : (x == 0) = false := beq_eq_false_iff_ne.2 hf
  clear hx hf
  go_enter Tryz.func7, Tryz.ntmps7
  obtain ⟨k0, k1, k2, f0, f1, f2⟩ := EA.three
  go_wp2_with fail
  refine hk.mono ?_
  rintro e w1 ⟨rfl, hb⟩
  replace hq := hq.trans (hb.mono hq.size)
  clear hk hb k0 k1 k2 f0 f1 f2
  go_wp2
  go_ret2
  exact ⟨rfl, hq⟩
set_option maxRecDepth 100000 in
set_option maxHeartbeats 4000000 in
theorem text_ok {lo : Nat} {a c : Option Addr} {ca cc : Nat} {xs ds : List Int} {w : World} (b : Bool) (FA : Fr lo w a ca xs c cc ds) (hl : xs.length ≤ 1000) (hl2 : ds.length ≤ 1000) (hf : formR b xs ds = 0) :
    Calls Tryz.prog 7 #[.agg #[.bool b, .slice a xs.length ca, .slice c ds.length cc]] w fun e w' => e = .returned (.tuple #[.string (strOfNums (textZ b (val xs) (val ds))), .int .i64 0]) ∧ Below w.heap.size w w' := by
  have hB : Below w.heap.size w (w.alloc (.cells #[.bool b, .slice a xs.length ca, .slice c ds.length cc] 27)) := (Below.refl _ _).alloc (Nat.le_refl _) _
  have EA := Box.put (w := w) (k := (w.heap.size)) (.cells #[.bool b, .slice a xs.length ca, .slice c ds.length cc] 27) rfl
  replace FA := FA.below hB
  have hk := pcheck_any b FA hl hl2
  rw [hf] at hk
  have b1 := decI_len (val_nonneg FA.up.words) (val_lt FA.up.words)
  have b2 := decI_len (val_nonneg FA.down.words) (val_lt FA.down.words)
  obtain ⟨t1, ht1⟩ : ∃ t, decI (val xs) = t := ⟨_, rfl⟩
  obtain ⟨t2, ht2⟩ : ∃ t, decI (val ds) = t := ⟨_, rfl⟩
  rw [ht1] at b1
  rw [ht2] at b2
  have HT1 := hide ht1
  have HT2 := hide ht2
  obtain ⟨s1, hs1⟩ : ∃ s, strOfNums t1 = s := ⟨_, rfl⟩
  obtain ⟨s2, hs2⟩ : ∃ s, strOfNums t2 = s := ⟨_, rfl⟩
  have z1 : s1.size ≤ 30000 := by rw [← hs1, strOfNums_size]; omega
  have z2 : s2.size ≤ 30000 := by rw [← hs2, strOfNums_size]; omega
  have HS1 := hide hs1
  have HS2 := hide hs2
  clear hf b1 b2 ht1 ht2 hs1 hs2
  go_enter Tryz.func7, Tryz.ntmps7
  obtain ⟨k0, k1, k2, f0, f1, f2⟩ := EA.three
  go_wp2_with fail
  refine hk.mono ?_
  rintro e w1 ⟨rfl, hb⟩
  replace hB := hB.trans (hb.mono hB.size)
  replace FA := FA.below hb
  replace EA := EA.below hb
  clear hk hb k0 k1 k2 f0 f1 f2
  obtain ⟨k0, k1, k2, f0, f1, f2⟩ := EA.three
  have hp := put_any FA.up (by omega)
  rw [HT1.out, HS1.out] at hp
  go_wp2_with fail
  refine hp.mono ?_
  rintro e w2 ⟨rfl, hb⟩
  replace hB := hB.trans (hb.mono hB.size)
  replace FA := FA.below hb
  replace EA := EA.below hb
  clear hp hb k0 k1 k2 f0 f1 f2
  obtain ⟨k0, k1, k2, f0, f1, f2⟩ := EA.three
  have q1 : ¬ 1 + s1.size > 9223372036854775807 := by omega
  have ho := done_any FA.down (by omega)
  have hp2 := fun (W : World) (hW : Below w2.heap.size w2 W) => put_any (FA.down.below hW) (by omega)
  rw [HT2.out, HS2.out] at hp2
  have q3 : ¬ s1.size + 1 + s2.size > 9223372036854775807 := by omega
  have q4 : ¬ 1 + s1.size + 1 + s2.size > 9223372036854775807 := by omega
  have q5 : ¬ s1.size + 1 > 9223372036854775807 := by omega
  have q6 : ¬ 1 + s1.size + 1 > 9223372036854775807 := by omega
  have q7 : ¬ 1 + s2.size > 9223372036854775807 := by omega
  have q8 : ¬ s1.size + (1 + s2.size) > 9223372036854775807 := by omega
  have q9 : ¬ 1 + s1.size + (1 + s2.size) > 9223372036854775807 := by omega
  have e45 : (⟨#[45]⟩ : ByteArray) = strOfNums [45] := rfl
  have e47 : (⟨#[47]⟩ : ByteArray) = strOfNums [47] := rfl
  have G45 := hide e45
  have G47 := hide e47
  clear e45 e47
  by_cases h1 : val ds = 1
  · have hone : (val ds == 1) = true := beq_iff_eq.2 h1
    rw [hone] at ho
    have H1 := hide h1
    clear h1 hone
    cases b
    all_goals
      go_wp2_with fail
      refine ho.mono ?_
      rintro e w3 ⟨rfl, hb3⟩
      go_wp2
      go_ret2
      refine ⟨?_, hB.trans (hb3.mono hB.size)⟩
      rw [← HS1.out, textZ, H1.out, HT1.out]
      first | (rw [G45.out, strOfNums_append]; simp; done) | simp
  · have hone : (val ds == 1) = false := beq_eq_false_iff_ne.2 h1
    rw [hone] at ho
    have H1 := hide h1
    clear h1 hone
    cases b
    all_goals
      go_wp2_with fail
      refine ho.mono ?_
      rintro e w3 ⟨rfl, hb3⟩
      have EA3 := EA.below hb3
      clear ho k0 k1 k2 f0 f1 f2
      obtain ⟨k0, k1, k2, f0, f1, f2⟩ := EA3.three
      go_wp2_with fail
      refine (hp2 _ hb3).mono ?_
      rintro e w4 ⟨rfl, hb4⟩
      clear hp2
      go_wp2
      go_ret2
      have hB3 := hB.trans (hb3.mono hB.size)
      refine ⟨?_, hB3.trans (hb4.mono hB3.size)⟩
      rw [← HS1.out, ← HS2.out, textZ, if_neg H1.out, HT1.out, HT2.out]
      first | (rw [G45.out, G47.out, strOfNums_append, strOfNums_append, strOfNums_append]; simp; done) | (rw [G47.out, strOfNums_append, strOfNums_append]; simp)
def FracSaid (bs : List Int) (w : World) (e : Ending) (w' : World) : Prop :=
  Below w.heap.size w w' ∧ ((∃ (b : Bool) (a : Option Addr) (ca : Nat) (xs : List Int) (c : Option Addr) (cc : Nat) (ds : List Int), e = .returned (.tuple #[.agg #[.bool b, .slice a xs.length ca, .slice c ds.length cc], .bool true]) ∧ Fr w.heap.size w' a ca xs c cc ds ∧ Apart a c xs ds ∧ LowL b xs ds ∧ textZ b (val xs) (val ds) = bs ∧ xs.length ≤ 1000 ∧ ds.length ≤ 1000) ∨
    (∃ (b : Bool) (a : Option Addr) (n ca : Nat) (c : Option Addr) (m cc : Nat), e = .returned (.tuple #[.agg #[.bool b, .slice a n ca, .slice c m cc], .bool false]) ∧ NoText bs))
theorem FR2 {lo : Nat} {W : World} {a c : Option Addr} {ca cc : Nat} {xs ds : List Int} (h : Seg lo W (.slice a xs.length ca) xs) (k : Seg lo W (.slice c ds.length cc) ds) : Fr lo W a ca xs c cc ds := ⟨h, k⟩
theorem cut_sign (s : ByteArray) : ∃ (far : ByteArray) (bl : Bool), (⟨(Lib.trimPrefix s.data.toList [45]).toArray⟩ : ByteArray) = far ∧ Lib.hasPrefix s.data.toList [45] = bl ∧ SignAt (octs s) bl (octs far) ∧ far.size ≤ s.size := by
  refine ⟨_, _, rfl, rfl, ?_, ?_⟩
  · unfold Lib.trimPrefix Lib.hasPrefix
    cases hx : s.data.toList with
    | nil =>
      refine ⟨?_, fun _ => ?_⟩
      · unfold octs; rw [hx]; rfl
      · unfold octs; rw [hx]; simp
    | cons b l =>
      by_cases hb : b = 45
      · subst hb
        have hp : List.isPrefixOf [(45 : UInt8)] (45 :: l) = true := by simp [List.isPrefixOf]
        rw [hp]
        refine ⟨?_, fun h => by cases h⟩
        unfold octs
        rw [hx]
        rfl
      · have hp : List.isPrefixOf [(45 : UInt8)] (b :: l) = false := by simp [List.isPrefixOf]; exact fun h => hb h.symm
        rw [hp]
        refine ⟨?_, fun _ => ?_⟩
        · unfold octs; rw [hx]; rfl
        · unfold octs
          rw [hx]
          simp
          intro h
          apply hb
          apply UInt8.toNat_inj.1
          show b.toNat = 45
          omega
  · unfold Lib.trimPrefix
    split
    · show (List.drop 1 s.data.toList).toArray.size ≤ s.data.size
      simp
    · show s.data.toList.toArray.size ≤ s.data.size
      simp
theorem last_len {R x y : List Int} (h : LastAt R [x, y]) : x.length ≤ R.length ∧ y.length ≤ R.length := by
  obtain ⟨pre, z, e, ⟨h1, _⟩, _⟩ := h
  match pre, e with
  | [p], e =>
    have e2 : x = p ∧ y = z := by simpa using e
    obtain ⟨rfl, rfl⟩ := e2
    rw [h1]
    simp
    omega
  | p :: q :: ps, e => simp at e
theorem last_len1 {R x : List Int} (h : LastAt R [x]) : x.length ≤ R.length := by
  obtain ⟨pre, z, e, ⟨h1, _⟩, _⟩ := h
  cases pre with
  | nil =>
    have e2 : x = z := by simpa using e
    subst e2
    rw [h1]
    simp
  | cons p ps => simp at e
theorem ownn_row {lo : Nat} {W : World} {pv : Value} {vs : List Value} {R : List Int} {xs : List (List Int)} (h : OwnN lo W pv vs) (hl : LastAt R xs) (hk : Kids lo W pv xs vs) : ∃ g cap, pv = .slice (some ⟨g, 0, none⟩) vs.length cap ∧ (g < W.heap.size ∧ W.cell? ⟨g, 0, none⟩ = vs[0]?) ∧ (1 < vs.length → W.cell? ⟨g, 1, none⟩ = vs[1]?) := by
  have hlen : 0 < vs.length := by
    cases hk with
    | zero => exact (last_ne hl).elim
    | one => simp
    | two => simp
  have h' := h
  rcases h'.2 with ⟨rfl, h0⟩ | ⟨g, cap, cur, rfl, _, hgb, _⟩
  · omega
  · have hlt := (h'.lt g rfl).2
    exact ⟨g, cap, rfl, ⟨hlt, World.ownsRow.cellAt h 0 (by omega)⟩, fun h1 => World.ownsRow.cellAt h 1 (by omega)⟩
set_option maxRecDepth 100000 in
set_option maxHeartbeats 4000000 in
theorem fraction_any (s : ByteArray) (w : World) (hs : s.size ≤ 1000) : Calls Tryz.prog 22 #[.string s] w fun e w' => FracSaid (octs s) w e w' := by
  obtain ⟨far, bl, e1, e2, hsg, hfs⟩ := cut_sign s
  have hcut := fun w => Tryz.strings_CutPrefix s ⟨#[45]⟩ w
  simp only at hcut
  rw [e1, e2] at hcut
  have hq := below_new w (.cells #[.bool false, .slice none 0 0, .slice none 0 0] 27)
  have E : Box (w.alloc (.cells #[.bool false, .slice none 0 0, .slice none 0 0] 27)) w.heap.size (.cells #[.bool false, .slice none 0 0, .slice none 0 0] 27) := Box.put _ rfl
  have hnum := numbers_in far (w.alloc (.cells #[.bool false, .slice none 0 0, .slice none 0 0] 27)) (by omega)
  have HSG := hide hsg
  have HOF := hide (octs_octs far)
  have HLEN : Hid ((octs s).length ≤ 10000) := by rw [Hid, octs_len]; omega
  have HLF : Hid ((octs far).length ≤ 1000) := by rw [Hid, octs_len]; omega
  clear e1 e2 hsg hfs
  go_enter Tryz.func22, Tryz.ntmps22
  go_wp2_with fail
  refine (hcut _).mono ?_
  rintro e w1 ⟨rfl, rfl⟩
  clear hcut
  go_wp2_with fail
  refine hnum.mono ?_
  rintro e w2 ⟨pv, ar, rfl, hb2, hcase⟩
  have hB2 := hq.trans (hb2.mono hq.size)
  have E2 := E.below hb2
  clear hnum
  rcases hcase with ⟨rfl, hno⟩ | ⟨rfl, vs, xs, hO, hK, hlast⟩
  · have HNO := hide (no_numbers HSG.out HLEN.out hno)
    obtain ⟨k0, k1, k2, f0, f1, f2⟩ := E2.three
    clear hno
    go_wp2
    clear k0 k1 k2 f0 f1 f2
    have E9 := Box.set3 (.bool false) (.slice none 0 0) (.slice none 0 0) E2
    have T9 := turns3 w.heap.size w2 (.bool false) (.slice none 0 0) (.slice none 0 0)
    obtain ⟨r0, r1, r2, _, _, _⟩ := E9.three
    refine bodyPost_ret (v := .tuple #[.agg #[.bool false, .slice none 0 0, .slice none 0 0], .bool false]) (by simp [results, Tryz.f22, go_sem, r0, r1, r2]) rfl ?_
    exact ⟨hB2.trans T9.below, Or.inr ⟨_, _, _, _, _, _, _, rfl, HNO.out⟩⟩
  · obtain ⟨g, cap, hpv, hrow⟩ := ownn_row hO hlast hK
    subst hpv
    cases hK with
    | zero => exact (last_ne hlast).elim
    | @one x a c z S nz g1 l F =>
      have hone := last_one hlast g1
      have hll := last_len1 hlast
      have hlf := HLF.out
      have hzl : z.length ≤ 1000 := by omega
      have HT1 : Hid (textZ bl (val z) 1 = octs s) := text_one HSG.out HOF.out hone
      have hof := of_any 1 (by decide) w2
      simp only [List.length_cons, List.length_nil, Nat.reduceAdd]
      clear hone g1 hlast hrow hll hlf
      go_wp2_with fail
      refine hof.mono ?_
      rintro e wo ⟨b, d, t, rfl, To, nt, vt, lt, hbo⟩
      have HT : Hid (textZ bl (val z) (val t) = octs s) := by rw [Hid, vt]; exact HT1.out
      have htl : t.length ≤ 1000 := by omega
      have hOo := ownn_below hO hbo
      obtain ⟨g3, cp3, w3, hap, hO3, hg3, hat⟩ := ownn_append hOo b t.length d (by simp) (Nat.le_trans hb2.size hbo.size)
      have hlt := hO.lt g rfl
      have hn3 := hq.size
      have E2o := E2.below hbo
      have hno : ∀ k, k < wo.heap.size → k ≠ g → w3.heap[k]? = wo.heap[k]? := fun k h1 h2 => (hg3.block k (by simp; omega) (fun e => by injection e with e; exact h2 e)).trans (Below.heap_alloc _ _ _ h1)
      have hs3 : wo.heap.size ≤ w3.heap.size := by have := hg3.size; simp at this; omega
      have hE := E.lt
      have E3 : Box w3 w.heap.size (.cells #[.bool false, .slice none 0 0, .slice none 0 0] 27) := E2o.heap (hno _ E2o.lt (by have := hlt.1; simp at this; omega))
      have S3 := (seg_row_keep (S.below hbo) (fun hz b' o' e h1 h2 => hno b' h2 (fun e2 => F hz b' o' e (by rw [e2]; rfl))) hs3).mono hq.size
      have T3 := (seg_row_keep To (fun _ b' _ _ h1 h2 => hno b' h2 (by omega)) hs3).mono (show w.heap.size ≤ w2.heap.size from hB2.size)
      have hBo := hB2.trans (hbo.mono hB2.size)
      have hB3 : Below w.heap.size w w3 := (hBo.alloc hBo.size _).grown hg3 (by simp; have := hBo.size; omega) (fun k hk => by have := (hOo.lt k hk).1; simp at this; omega)
      have c0 : w3.cell? ⟨g3, 0, none⟩ = some (.slice a z.length c) := World.ownsRow.cellAt hO3 0 (by simp)
      have c1 : w3.cell? ⟨g3, 1, none⟩ = some (.slice b t.length d) := World.ownsRow.cellAt hO3 1 (by simp)
      have hgw3 := (hO3.lt g3 rfl).2
      have A : Apart a b z t := apart_of (fun hz b' o' e => (seg_at_least S hz e).2) To (Nat.le_refl _)
      have c2 := ((below_new w3 (.cells #[.bool false, .slice none 0 0, .slice none 0 0] 27)).cell (p := ⟨g3, 0, none⟩) hgw3).trans c0
      have c3 := ((below_new w3 (.cells #[.bool false, .slice none 0 0, .slice none 0 0] 27)).cell (p := ⟨g3, 1, none⟩) hgw3).trans c1
      have hb3 : Below w.heap.size w w3 := hB3
      simp only [List.length_cons, List.length_nil, Nat.reduceAdd] at hap
      clear hof hno hs3 hE E2o S To F hOo hO3 hg3 hat hlt hn3 hBo hO E2 HT1 vt
      go_wp2_with (at_builtin; refine Lib.wpList_append_run _ rfl _ _ _ _ rfl _ _ rfl rfl _ _ hap ?_)
      go_region
      have EV := E3.below (below_new w3 (.cells #[.bool bl, .slice a z.length c, .slice b t.length d] 27))
      have hBV := hB3.trans ((below_new w3 (.cells #[.bool bl, .slice a z.length c, .slice b t.length d] 27)).mono hB3.size)
      have SV := S3.below (below_new w3 (.cells #[.bool bl, .slice a z.length c, .slice b t.length d] 27))
      have TV := T3.below (below_new w3 (.cells #[.bool bl, .slice a z.length c, .slice b t.length d] 27))
      have ER : Box (w3.alloc (.cells #[.bool bl, .slice a z.length c, .slice b t.length d] 27)) w3.heap.size (.cells #[.bool bl, .slice a z.length c, .slice b t.length d] 27) := Box.put _ rfl
      have hmn : w3.heap.size ≠ w.heap.size := by have := E3.lt; omega
      obtain ⟨m, hm⟩ : ∃ m, w3.heap.size = m := ⟨_, rfl⟩
      rw [hm] at ER hmn ⊢
      replace EV := EV.drew
      replace ER := ER.drew
      replace SV := SV.drew
      replace TV := TV.drew
      replace hBV := hBV.drew
      obtain ⟨V, hV⟩ : ∃ V, (w3.alloc (.cells #[.bool bl, .slice a z.length c, .slice b t.length d] 27)).drew = V := ⟨_, rfl⟩
      rw [hV] at EV ER SV TV hBV ⊢
      obtain ⟨f, hf⟩ : ∃ f, formR bl z t = f := ⟨_, rfl⟩
      have hck := fun (W : World) (hW : Below V.heap.size V W) => pcheck_any bl (FR2 (SV.below hW) (TV.below hW)) hzl htl
      rw [hf] at hck
      have HF := hide hf
      have hkeep : ∀ W : World, Below V.heap.size V W → (W.cell? ⟨m, 0, none⟩ = some (.bool bl) ∧ W.cell? ⟨m, 1, none⟩ = some (.slice a z.length c) ∧ W.cell? ⟨m, 2, none⟩ = some (.slice b t.length d)) := fun W hW => by
        obtain ⟨x0, x1, x2, _, _, _⟩ := (ER.below hW).three
        exact ⟨x0, x1, x2⟩
      clear hV hf hm S3 T3 E3 c0 c1 c2 c3 hb3 hB3
      obtain ⟨k0, k1, k2, f0, f1, f2⟩ := EV.three
      obtain ⟨j0, j1, j2, _, _, _⟩ := ER.three
      go_wp2_with fail
      go_region_held3 (fun W => W.cell? ⟨m, 0, none⟩ = some (.bool bl) ∧ W.cell? ⟨m, 1, none⟩ = some (.slice a z.length c) ∧ W.cell? ⟨m, 2, none⟩ = some (.slice b t.length d))
        (first | exact hkeep _ ⟨rfl, rfl, rfl, Nat.le_refl _, fun _ _ => rfl⟩ | exact hk1.out | exact hk2.out)
        (first
        | (go_at_call 17
           refine (hck _ ?_).mono ?_
           exact ⟨rfl, rfl, rfl, Nat.le_refl _, fun _ _ => rfl⟩
           rintro e w4 ⟨rfl, hb4⟩
           have hb4' : Below V.heap.size V w4 := ⟨hb4.1, hb4.2, hb4.3, hb4.4, hb4.5⟩
           have hk1 := hide (hkeep w4 hb4')
           have E4 := EV.below hb4'
           have hk2 : Hid ((((w4.setCell ⟨w.heap.size, 0, none⟩ (.bool bl)).setCell ⟨w.heap.size, 1, none⟩ (.slice a z.length c)).setCell ⟨w.heap.size, 2, none⟩ (.slice b t.length d)).cell? ⟨m, 0, none⟩ = some (.bool bl) ∧ (((w4.setCell ⟨w.heap.size, 0, none⟩ (.bool bl)).setCell ⟨w.heap.size, 1, none⟩ (.slice a z.length c)).setCell ⟨w.heap.size, 2, none⟩ (.slice b t.length d)).cell? ⟨m, 1, none⟩ = some (.slice a z.length c) ∧ (((w4.setCell ⟨w.heap.size, 0, none⟩ (.bool bl)).setCell ⟨w.heap.size, 1, none⟩ (.slice a z.length c)).setCell ⟨w.heap.size, 2, none⟩ (.slice b t.length d)).cell? ⟨m, 2, none⟩ = some (.slice b t.length d)) := by
             have q := ((ER.below hb4').turns (turns3 w.heap.size w4 (.bool bl) (.slice a z.length c) (.slice b t.length d)) hmn).three
             exact ⟨q.1, q.2.1, q.2.2.1⟩
           obtain ⟨r0, r1, r2, g0, g1, g2⟩ := E4.three
           clear hb4))
      all_goals
        have hB4 := hBV.trans (hb4'.mono hBV.size)
        have E5 := Box.set3 (.bool bl) (.slice a z.length c) (.slice b t.length d) E4
        have T9 := turns3 w.heap.size w4 (.bool bl) (.slice a z.length c) (.slice b t.length d)
        have S5 := (SV.below hb4').beside E4 (noWord3 (fun _ e => by cases e) (fun _ e => by cases e) (fun _ e => by cases e)) T9
        have T5 := (TV.below hb4').beside E4 (noWord3 (fun _ e => by cases e) (fun _ e => by cases e) (fun _ e => by cases e)) T9
        have HS5 := hide S5
        have HT5 := hide T5
        have HB5 := hide (hB4.trans T9.below)
        have HL : Hid ((f == 0) = true → LowL bl z t) := fun h => (formR_low S5.words T5.words).1 (HF.out.trans (beq_iff_eq.1 h))
        have HN : Hid ((f == 0) = false → NoText (octs s)) := fun h => no_form S5.words T5.words nz nt HT.out (by rw [HF.out]; exact beq_eq_false_iff_ne.1 h)
        obtain ⟨y0, y1, y2, _, _, _⟩ := E5.three
        clear S5 T5 k0 k1 k2 f0 f1 f2 j0 j1 j2 r0 r1 r2 g0 g1 g2 hk1 hk2 E5 T9 hck hkeep
        obtain ⟨ok, hok⟩ : ∃ o, (f == 0) = o := ⟨_, rfl⟩
        rw [hok] at HL HN ⊢
        clear hok
        go_wp2
        refine bodyPost_ret (v := .tuple #[.agg #[.bool bl, .slice a z.length c, .slice b t.length d], .bool ok]) (by simp [results, Tryz.f22, go_sem, y0, y1, y2]) rfl ?_
        cases ok with
        | true => exact ⟨HB5.out, Or.inl ⟨_, _, _, _, _, _, _, rfl, FR2 HS5.out HT5.out, A, HL.out rfl, HT.out, hzl, htl⟩⟩
        | false => exact ⟨HB5.out, Or.inr ⟨_, _, _, _, _, _, _, rfl, HN.out rfl⟩⟩
    | @two x y a b c d z t S n g1 l T nT g2 l2 A =>
      have htwo := last_two hlast g1 g2
      have hgw := hrow.1.1
      have hx1 : w2.cell? ⟨g, 0, none⟩ = some (.slice a z.length c) := hrow.1.2
      have hx2 : w2.cell? ⟨g, 1, none⟩ = some (.slice b t.length d) := hrow.2 (by simp)
      simp only [List.length_cons, List.length_nil, Nat.reduceAdd]
      have hll := last_len hlast
      have hlf := HLF.out
      have hzl : z.length ≤ 1000 := by omega
      have htl : t.length ≤ 1000 := by omega
      have hone := done_any T (by omega)
      by_cases h1 : val t = 1
      · have hb1 : (val t == 1) = true := beq_iff_eq.2 h1
        rw [hb1] at hone
        have HNO : Hid (NoText (octs s)) := no_one HSG.out HLEN.out (h1 ▸ htwo)
        obtain ⟨k0, k1, k2, f0, f1, f2⟩ := E2.three
        go_wp2_with fail
        refine hone.mono ?_
        rintro e w3 ⟨rfl, hb3⟩
        have E3 := E2.below hb3
        have hB3 := hB2.trans (hb3.mono hB2.size)
        clear k0 k1 k2 f0 f1 f2
        obtain ⟨k0, k1, k2, f0, f1, f2⟩ := E3.three
        go_wp2
        clear k0 k1 k2 f0 f1 f2
        have E9 := Box.set3 (.bool false) (.slice none 0 0) (.slice none 0 0) E3
        have T9 := turns3 w.heap.size w3 (.bool false) (.slice none 0 0) (.slice none 0 0)
        obtain ⟨r0, r1, r2, _, _, _⟩ := E9.three
        refine bodyPost_ret (v := .tuple #[.agg #[.bool false, .slice none 0 0, .slice none 0 0], .bool false]) (by simp [results, Tryz.f22, go_sem, r0, r1, r2]) rfl ?_
        exact ⟨hB3.trans T9.below, Or.inr ⟨_, _, _, _, _, _, _, rfl, HNO.out⟩⟩
      · have hb1 : (val t == 1) = false := beq_eq_false_iff_ne.2 h1
        rw [hb1] at hone
        have HT : Hid (textZ bl (val z) (val t) = octs s) := text_two HSG.out HOF.out h1 htwo
        obtain ⟨k0, k1, k2, f0, f1, f2⟩ := E2.three
        go_wp2_with fail
        refine hone.mono ?_
        rintro e w3 ⟨rfl, hb3⟩
        have E3 := E2.below hb3
        have hB3 := hB2.trans (hb3.mono hB2.size)
        have S3 := (S.below hb3).mono hq.size
        have T3 := (T.below hb3).mono hq.size
        have nz := n
        have nt := nT
        have c0 := (hb3.cell (p := ⟨g, 0, none⟩) hgw).trans hx1
        have c1 := (hb3.cell (p := ⟨g, 1, none⟩) hgw).trans hx2
        clear k0 k1 k2 f0 f1 f2 E2 hone hb1 hrow hx1 hx2 hO hlast htwo S T g1 g2
        have hgw3 := Nat.lt_of_lt_of_le hgw hb3.size
        have c2 := ((below_new w3 (.cells #[.bool false, .slice none 0 0, .slice none 0 0] 27)).cell (p := ⟨g, 0, none⟩) hgw3).trans c0
        have c3 := ((below_new w3 (.cells #[.bool false, .slice none 0 0, .slice none 0 0] 27)).cell (p := ⟨g, 1, none⟩) hgw3).trans c1
        go_wp2
        go_region
        have EV := E3.below (below_new w3 (.cells #[.bool bl, .slice a z.length c, .slice b t.length d] 27))
        have hBV := hB3.trans ((below_new w3 (.cells #[.bool bl, .slice a z.length c, .slice b t.length d] 27)).mono hB3.size)
        have SV := S3.below (below_new w3 (.cells #[.bool bl, .slice a z.length c, .slice b t.length d] 27))
        have TV := T3.below (below_new w3 (.cells #[.bool bl, .slice a z.length c, .slice b t.length d] 27))
        have ER : Box (w3.alloc (.cells #[.bool bl, .slice a z.length c, .slice b t.length d] 27)) w3.heap.size (.cells #[.bool bl, .slice a z.length c, .slice b t.length d] 27) := Box.put _ rfl
        have hmn : w3.heap.size ≠ w.heap.size := by have := E3.lt; omega
        obtain ⟨m, hm⟩ : ∃ m, w3.heap.size = m := ⟨_, rfl⟩
        rw [hm] at ER hmn ⊢
        replace EV := EV.drew
        replace ER := ER.drew
        replace SV := SV.drew
        replace TV := TV.drew
        replace hBV := hBV.drew
        obtain ⟨V, hV⟩ : ∃ V, (w3.alloc (.cells #[.bool bl, .slice a z.length c, .slice b t.length d] 27)).drew = V := ⟨_, rfl⟩
        rw [hV] at EV ER SV TV hBV ⊢
        obtain ⟨f, hf⟩ : ∃ f, formR bl z t = f := ⟨_, rfl⟩
        have hck := fun (W : World) (hW : Below V.heap.size V W) => pcheck_any bl (FR2 (SV.below hW) (TV.below hW)) hzl htl
        rw [hf] at hck
        have HF := hide hf
        have hkeep : ∀ W : World, Below V.heap.size V W → (W.cell? ⟨m, 0, none⟩ = some (.bool bl) ∧ W.cell? ⟨m, 1, none⟩ = some (.slice a z.length c) ∧ W.cell? ⟨m, 2, none⟩ = some (.slice b t.length d)) := fun W hW => by
          obtain ⟨x0, x1, x2, _, _, _⟩ := (ER.below hW).three
          exact ⟨x0, x1, x2⟩
        clear hV hf hm S3 T3 E3 c0 c1 c2 c3 hb3 hB3
        obtain ⟨k0, k1, k2, f0, f1, f2⟩ := EV.three
        obtain ⟨j0, j1, j2, _, _, _⟩ := ER.three
        go_wp2_with fail
        go_region_held3 (fun W => W.cell? ⟨m, 0, none⟩ = some (.bool bl) ∧ W.cell? ⟨m, 1, none⟩ = some (.slice a z.length c) ∧ W.cell? ⟨m, 2, none⟩ = some (.slice b t.length d))
          (first | exact hkeep _ ⟨rfl, rfl, rfl, Nat.le_refl _, fun _ _ => rfl⟩ | exact hk1.out | exact hk2.out)
          (first
          | (go_at_call 17
             refine (hck _ ?_).mono ?_
             exact ⟨rfl, rfl, rfl, Nat.le_refl _, fun _ _ => rfl⟩
             rintro e w4 ⟨rfl, hb4⟩
             have hb4' : Below V.heap.size V w4 := ⟨hb4.1, hb4.2, hb4.3, hb4.4, hb4.5⟩
             have hk1 := hide (hkeep w4 hb4')
             have E4 := EV.below hb4'
             have hk2 : Hid ((((w4.setCell ⟨w.heap.size, 0, none⟩ (.bool bl)).setCell ⟨w.heap.size, 1, none⟩ (.slice a z.length c)).setCell ⟨w.heap.size, 2, none⟩ (.slice b t.length d)).cell? ⟨m, 0, none⟩ = some (.bool bl) ∧ (((w4.setCell ⟨w.heap.size, 0, none⟩ (.bool bl)).setCell ⟨w.heap.size, 1, none⟩ (.slice a z.length c)).setCell ⟨w.heap.size, 2, none⟩ (.slice b t.length d)).cell? ⟨m, 1, none⟩ = some (.slice a z.length c) ∧ (((w4.setCell ⟨w.heap.size, 0, none⟩ (.bool bl)).setCell ⟨w.heap.size, 1, none⟩ (.slice a z.length c)).setCell ⟨w.heap.size, 2, none⟩ (.slice b t.length d)).cell? ⟨m, 2, none⟩ = some (.slice b t.length d)) := by
               have q := ((ER.below hb4').turns (turns3 w.heap.size w4 (.bool bl) (.slice a z.length c) (.slice b t.length d)) hmn).three
               exact ⟨q.1, q.2.1, q.2.2.1⟩
             obtain ⟨r0, r1, r2, g0, g1, g2⟩ := E4.three
             clear hb4))
        all_goals
          have hB4 := hBV.trans (hb4'.mono hBV.size)
          have E5 := Box.set3 (.bool bl) (.slice a z.length c) (.slice b t.length d) E4
          have T9 := turns3 w.heap.size w4 (.bool bl) (.slice a z.length c) (.slice b t.length d)
          have S5 := (SV.below hb4').beside E4 (noWord3 (fun _ e => by cases e) (fun _ e => by cases e) (fun _ e => by cases e)) T9
          have T5 := (TV.below hb4').beside E4 (noWord3 (fun _ e => by cases e) (fun _ e => by cases e) (fun _ e => by cases e)) T9
          have HS5 := hide S5
          have HT5 := hide T5
          have HB5 := hide (hB4.trans T9.below)
          have HL : Hid ((f == 0) = true → LowL bl z t) := fun h => (formR_low S5.words T5.words).1 (HF.out.trans (beq_iff_eq.1 h))
          have HN : Hid ((f == 0) = false → NoText (octs s)) := fun h => no_form S5.words T5.words nz nt HT.out (by rw [HF.out]; exact beq_eq_false_iff_ne.1 h)
          obtain ⟨y0, y1, y2, _, _, _⟩ := E5.three
          clear S5 T5 k0 k1 k2 f0 f1 f2 j0 j1 j2 r0 r1 r2 g0 g1 g2 hk1 hk2 E5 T9 hck hkeep
          obtain ⟨ok, hok⟩ : ∃ o, (f == 0) = o := ⟨_, rfl⟩
          rw [hok] at HL HN ⊢
          clear hok
          go_wp2
          refine bodyPost_ret (v := .tuple #[.agg #[.bool bl, .slice a z.length c, .slice b t.length d], .bool ok]) (by simp [results, Tryz.f22, go_sem, y0, y1, y2]) rfl ?_
          cases ok with
          | true => exact ⟨HB5.out, Or.inl ⟨_, _, _, _, _, _, _, rfl, FR2 HS5.out HT5.out, A, HL.out rfl, HT.out, hzl, htl⟩⟩
          | false => exact ⟨HB5.out, Or.inr ⟨_, _, _, _, _, _, _, rfl, HN.out rfl⟩⟩
def ReddSaid (bs : List Int) (w : World) (e : Ending) (w' : World) : Prop :=
  ∃ (b : Bool) (a : Option Addr) (ca : Nat) (xs : List Int) (c : Option Addr) (cc : Nat) (ds : List Int) (er p : Int), e = .returned (.tuple #[.agg #[.bool b, .slice a xs.length ca, .slice c ds.length cc], .agg #[.int .i64 er, .int .i64 p]]) ∧ Fr w.heap.size w' a ca xs c cc ds ∧ Apart a c xs ds ∧ ReadIs bs b xs ds er p ∧ xs.length ≤ 1000 ∧ ds.length ≤ 1000 ∧ Below w.heap.size w w'
set_option maxRecDepth 100000 in
set_option maxHeartbeats 4000000 in
theorem read_any (s : ByteArray) (w : World) (hl : s.size ≤ 1000 ∨ 10000 < s.size) : Calls Tryz.prog 9 #[.string s] w fun e w' => ReddSaid (octs s) w e w' := by
  have HLEN := hide (octs_len s)
  by_cases h1 : 10000 < s.size
  · have h2 : (10000 : Int) < (s.size : Int) := by omega
    have HR : Hid (ReadIs (octs s) false [] [] 4 10000) := .long (by rw [HLEN.out]; exact h1)
    have hB : Below w.heap.size w ((w.alloc (.cells #[.bool false, .slice none 0 0, .slice none 0 0] 27)).alloc (.cells #[.int .i64 4, .int .i64 10000] 35)) := ((Below.refl _ _).alloc (Nat.le_refl _) _).alloc (by simp) _
    clear hl
    go_enter Tryz.func9, Tryz.ntmps9
    go_wp2
    refine bodyPost_ret (v := .tuple #[.agg #[.bool false, .slice none 0 0, .slice none 0 0], .agg #[.int .i64 4, .int .i64 10000]]) (by simp [results, Tryz.f9, go_sem]) rfl ?_
    exact ⟨false, none, 0, [], none, 0, [], 4, 10000, rfl, ⟨Seg.nil _ _, Seg.nil _ _⟩, fun h => absurd rfl h, HR.out, by simp, by simp, hB⟩
  · have h2 : ¬ (10000 : Int) < (s.size : Int) := by omega
    have hB : Below w.heap.size w ((w.alloc (.cells #[.bool false, .slice none 0 0, .slice none 0 0] 27)).alloc (.cells #[.int .i64 0, .int .i64 0] 35)) := ((Below.refl _ _).alloc (Nat.le_refl _) _).alloc (by simp) _
    have ER : Box ((w.alloc (.cells #[.bool false, .slice none 0 0, .slice none 0 0] 27)).alloc (.cells #[.int .i64 0, .int .i64 0] 35)) w.heap.size (.cells #[.bool false, .slice none 0 0, .slice none 0 0] 27) := (Box.put _ rfl).below (below_new _ _)
    have EF : Box ((w.alloc (.cells #[.bool false, .slice none 0 0, .slice none 0 0] 27)).alloc (.cells #[.int .i64 0, .int .i64 0] 35)) (w.heap.size + 1) (.cells #[.int .i64 0, .int .i64 0] 35) := Box.put _ (by simp)
    have hfr := fraction_any s ((w.alloc (.cells #[.bool false, .slice none 0 0, .slice none 0 0] 27)).alloc (.cells #[.int .i64 0, .int .i64 0] 35)) (by omega)
    have HL1 : Hid ((octs s).length ≤ 10000) := by rw [Hid, HLEN.out]; omega
    clear hl h1
    go_enter Tryz.func9, Tryz.ntmps9
    go_wp2_with fail
    refine hfr.mono ?_
    rintro e w1 ⟨hb1, ⟨b, a, ca, xs, c, cc, ds, rfl, FA, hap, low, ht, lx, ld⟩ | ⟨b, a, n, ca, c, m, cc, rfl, hno⟩⟩
    · have hB1 := hB.trans (hb1.mono hB.size)
      have HR : Hid (ReadIs (octs s) b xs ds 0 0) := .ok low ht HL1.out
      have HA := hide hap
      have ER1 := (ER.below hb1).below (below_new w1 (.cells #[.bool b, .slice a xs.length ca, .slice c ds.length cc] 27))
      have EF1 := (EF.below hb1).below (below_new w1 (.cells #[.bool b, .slice a xs.length ca, .slice c ds.length cc] 27))
      have EL : Box (w1.alloc (.cells #[.bool b, .slice a xs.length ca, .slice c ds.length cc] 27)) w1.heap.size (.cells #[.bool b, .slice a xs.length ca, .slice c ds.length cc] 27) := Box.put _ rfl
      have FA1 := FA.below (below_new w1 (.cells #[.bool b, .slice a xs.length ca, .slice c ds.length cc] 27))
      have hB2 := hB1.trans ((below_new w1 (.cells #[.bool b, .slice a xs.length ca, .slice c ds.length cc] 27)).mono hB1.size)
      obtain ⟨k0, k1, k2, f0, f1, f2⟩ := ER1.three
      obtain ⟨j0, j1, g0, g1⟩ := EF1.two
      obtain ⟨i0, i1, i2, _, _, _⟩ := EL.three
      have E5 := Box.set3 (.bool b) (.slice a xs.length ca) (.slice c ds.length cc) ER1
      have T5 := turns3 w.heap.size (w1.alloc (.cells #[.bool b, .slice a xs.length ca, .slice c ds.length cc] 27)) (.bool b) (.slice a xs.length ca) (.slice c ds.length cc)
      have F5 := FA1.beside ER1 (noWord3 (fun _ e => by cases e) (fun _ e => by cases e) (fun _ e => by cases e)) T5
      have EF5 := EF1.turns T5 (by omega)
      have HB5 := hB2.trans T5.below
      have HF5 := hide F5
      have HBB := hide HB5
      have HE5 := hide E5
      have HE6 := hide EF5
      clear hfr low ht hap hb1 ER EF FA F5 HB5 E5 EF5 T5 EL FA1
      go_wp2
      clear k0 k1 k2 f0 f1 f2 j0 j1 g0 g1 i0 i1 i2
      obtain ⟨X, hX⟩ : ∃ X, (((w1.alloc (.cells #[.bool b, .slice a xs.length ca, .slice c ds.length cc] 27)).setCell ⟨w.heap.size, 0, none⟩ (.bool b)).setCell ⟨w.heap.size, 1, none⟩ (.slice a xs.length ca)).setCell ⟨w.heap.size, 2, none⟩ (.slice c ds.length cc) = X := ⟨_, rfl⟩
      rw [hX] at HF5 HBB HE5 HE6 ⊢
      have T6 := turns2 (w.heap.size + 1) X (.int .i64 0) (.int .i64 0)
      obtain ⟨r0, r1, r2, _, _, _⟩ := (HE5.out.turns T6 (by omega)).three
      obtain ⟨q0, q1, _, _⟩ := (Box.set2 (.int .i64 0) (.int .i64 0) HE6.out).two
      have F6 := HF5.out.beside HE6.out (noWord2 (fun _ e => by cases e) (fun _ e => by cases e)) T6
      have B6 := HBB.out.trans (T6.below.mono (by omega))
      refine bodyPost_ret (v := .tuple #[.agg #[.bool b, .slice a xs.length ca, .slice c ds.length cc], .agg #[.int .i64 0, .int .i64 0]]) (by simp [results, Tryz.f9, go_sem, r0, r1, r2, q0, q1]) rfl ?_
      exact ⟨b, a, ca, xs, c, cc, ds, 0, 0, rfl, F6.mono (by simp; omega), HA.out, HR.out, lx, ld, B6⟩
    · have hB1 := hB.trans (hb1.mono hB.size)
      have HR : Hid (ReadIs (octs s) false [] [] 6 0) := .bad HL1.out hno
      have ER1 := (ER.below hb1).below (below_new w1 (.cells #[.bool b, .slice a n ca, .slice c m cc] 27))
      have EF1 := (EF.below hb1).below (below_new w1 (.cells #[.bool b, .slice a n ca, .slice c m cc] 27))
      have hB2 := hB1.trans ((below_new w1 (.cells #[.bool b, .slice a n ca, .slice c m cc] 27)).mono hB1.size)
      obtain ⟨k0, k1, k2, f0, f1, f2⟩ := ER1.three
      obtain ⟨j0, j1, g0, g1⟩ := EF1.two
      have E5 := Box.set3 (.bool false) (.slice none 0 0) (.slice none 0 0) ER1
      have T5 := turns3 w.heap.size (w1.alloc (.cells #[.bool b, .slice a n ca, .slice c m cc] 27)) (.bool false) (.slice none 0 0) (.slice none 0 0)
      have EF5 := EF1.turns T5 (by omega)
      have HB5 := hB2.trans T5.below
      have HBB := hide HB5
      have HE5 := hide E5
      have HE6 := hide EF5
      clear hfr hno hb1 ER EF HB5 E5 EF5 T5
      go_wp2
      clear k0 k1 k2 f0 f1 f2 j0 j1 g0 g1
      obtain ⟨X, hX⟩ : ∃ X, (((w1.alloc (.cells #[.bool b, .slice a n ca, .slice c m cc] 27)).setCell ⟨w.heap.size, 0, none⟩ (.bool false)).setCell ⟨w.heap.size, 1, none⟩ (.slice none 0 0)).setCell ⟨w.heap.size, 2, none⟩ (.slice none 0 0) = X := ⟨_, rfl⟩
      rw [hX] at HBB HE5 HE6 ⊢
      have T6 := turns2 (w.heap.size + 1) X (.int .i64 6) (.int .i64 0)
      obtain ⟨r0, r1, r2, _, _, _⟩ := (HE5.out.turns T6 (by omega)).three
      obtain ⟨q0, q1, _, _⟩ := (Box.set2 (.int .i64 6) (.int .i64 0) HE6.out).two
      have B6 := HBB.out.trans (T6.below.mono (by omega))
      refine bodyPost_ret (v := .tuple #[.agg #[.bool false, .slice none 0 0, .slice none 0 0], .agg #[.int .i64 6, .int .i64 0]]) (by simp [results, Tryz.f9, go_sem, r0, r1, r2, q0, q1]) rfl ?_
      exact ⟨false, none, 0, [], none, 0, [], 6, 0, rfl, ⟨Seg.nil _ _, Seg.nil _ _⟩, fun h => absurd rfl h, HR.out, by simp, by simp, B6⟩
set_option maxRecDepth 100000 in
set_option maxHeartbeats 4000000 in
theorem gets_core {lo : Nat} {a : Option Addr} {cap : Nat} {zs : List Int} (s : ByteArray) (e p : Int) {w : World} (h : Seg lo w (.slice a zs.length cap) zs) (hl : s.size ≤ 1000) (hz : zs.length ≤ 1000) (hg : ∀ (ys : List Int) (er q : Int), Words ys → GetIs (getP (octs s)) ys er q → ys = zs ∧ er = e ∧ q = p) :
    Calls Tryz.prog 14 #[.string s, .slice a zs.length cap, .int .i64 e, .int .i64 p] w fun e w' => e = .returned (.bool true) ∧ Below w.heap.size w w' := by
  have hget := get_any s w (Or.inl hl)
  have HG := hide hg
  obtain ⟨n, hN⟩ : ∃ n, zs.length = n := ⟨_, rfl⟩
  have HN := hide hN
  rw [hN] at h hz ⊢
  clear hg hN
  go_enter Tryz.func14, Tryz.ntmps14
  go_wp2_with fail
  refine hget.mono ?_
  rintro ee w1 ⟨a1, c1, ys, er, q, rfl, hs, hi, hle, hb⟩
  obtain ⟨rfl, rfl, rfl⟩ := HG.out ys er q hs.words hi
  have hq := below_new w1 (.cells #[.int .i64 er, .int .i64 q] 35)
  have E : Box (w1.alloc (.cells #[.int .i64 er, .int .i64 q] 35)) w1.heap.size (.cells #[.int .i64 er, .int .i64 q] 35) := Box.put _ rfl
  have h1 := h.below hb
  have h2 := h1.below hq
  have hs2 := hs.below hq
  rw [HN.out] at hs hs2
  obtain ⟨k0, k1, f0, f1⟩ := E.two
  have hsame := same_yes (xs := ys) (by rw [HN.out]; exact hs2) (by rw [HN.out]; exact h2) (by rw [HN.out]; omega)
  rw [HN.out] at hsame
  have HB := hide hb
  simp only [HN.out]
  clear hget hle hi hb
  go_wp2_with fail
  refine hsame.mono ?_
  rintro ee w2 ⟨rfl, hb2⟩
  replace E := E.below hb2
  clear k0 k1 f0 f1 hsame
  obtain ⟨k0, k1, f0, f1⟩ := E.two
  go_wp2
  go_ret
  exact ⟨rfl, HB.out.trans ((hq.trans (hb2.mono hq.size)).mono HB.out.size)⟩
theorem gets_ok {lo : Nat} {a : Option Addr} {cap : Nat} {zs : List Int} (s : ByteArray) {w : World} (h : Seg lo w (.slice a zs.length cap) zs) (hn : Norm zs) (hl : s.size ≤ 1000) (hz : zs.length ≤ 1000) (hg : getP (octs s) = .ok (val zs)) :
    Calls Tryz.prog 14 #[.string s, .slice a zs.length cap, .int .i64 0, .int .i64 0] w fun e w' => e = .returned (.bool true) ∧ Below w.heap.size w w' :=
  gets_core s 0 0 h hl hz fun ys er q hw hi => by
    rw [hg] at hi
    obtain ⟨hn2, hv⟩ := hi
    exact ⟨norm_unique hw h.words hn2 hn hv, rfl, rfl⟩
theorem gets_no (s : ByteArray) (e p : Int) {w : World} (hl : s.size ≤ 1000) (hg : getP (octs s) = .error (e, p)) :
    Calls Tryz.prog 14 #[.string s, .slice none 0 0, .int .i64 e, .int .i64 p] w fun e w' => e = .returned (.bool true) ∧ Below w.heap.size w w' :=
  gets_core (lo := 0) (zs := []) s e p (Seg.nil _ _) hl (Nat.zero_le _) fun ys er q hw hi => by
    rw [hg] at hi
    cases hi
    exact ⟨rfl, rfl, rfl⟩
theorem decI_of {bs : List Int} {v : Int} (ho : Octs bs) (h : getZ bs = .ok v) : decI v = bs := (dec_getZ ho h).2.1.symm
def big20 : List Int := [49, 56, 52, 52, 54, 55, 52, 52, 48, 55, 51, 55, 48, 57, 53, 53, 49, 54, 49, 54]
theorem big20_octs : Octs big20 := by unfold big20; intro z hz; simp at hz; omega
theorem big20_dec : decI 18446744073709551616 = big20 := decI_of big20_octs rfl
theorem seg_big {k : Nat} {w : World} (E : Box w k (.cells #[.int .u64 0, .int .u64 1] 42)) : Seg k w (.slice (some ⟨k, 0, none⟩) [0, 1].length 2) [0, 1] := by
  refine ⟨Words.cons (by decide) (Words.cons (by decide) Words.nil), _, _, rfl, Nat.le_refl _, fun _ => ⟨k, 0, rfl, Nat.le_refl _, E.lt, fun j hj => ?_, fun j _ => frozen_of_heap E.what _⟩⟩
  rw [cell_of_heap E.what]
  have hj' : j < 2 := hj
  rcases (by omega : j = 0 ∨ j = 1) with rfl | rfl <;> rfl
set_option maxRecDepth 100000 in
set_option maxHeartbeats 4000000 in
theorem dawake_any (w : World) : Calls Tryz.prog 5 #[] w fun e w' => e = .returned (.bool true) ∧ Below w.heap.size w w' := by
  have q1 : Below w.heap.size w (w.alloc (.cells #[.int .u64 0, .int .u64 1] 42)) := (Below.refl _ _).alloc (Nat.le_refl _) _
  have E1 : Box (w.alloc (.cells #[.int .u64 0, .int .u64 1] 42)) w.heap.size (.cells #[.int .u64 0, .int .u64 1] 42) := Box.put _ rfl
  have hput := put_any (seg_big E1) (by simp)
  rw [show val [0, 1] = 18446744073709551616 by decide, big20_dec] at hput
  have ht : (strOfNums big20).toList = [49, 56, 52, 52, 54, 55, 52, 52, 48, 55, 51, 55, 48, 57, 53, 53, 49, 54, 49, 54] := by
    rw [strOfNums_toList]
    rfl
  obtain ⟨S, hS⟩ : ∃ S, strOfNums big20 = S := ⟨_, rfl⟩
  rw [hS] at hput ht
  go_enter Tryz.func5, Tryz.ntmps5
  go_wp2_with fail
  refine hput.mono ?_
  rintro e w1 ⟨rfl, hb1⟩
  have hB1 := q1.trans (hb1.mono q1.size)
  have q2 : Below w1.heap.size w1 (w1.alloc (.cells #[.int .u64 0, .int .u64 1] 42)) := (Below.refl _ _).alloc (Nat.le_refl _) _
  have E2 : Box (w1.alloc (.cells #[.int .u64 0, .int .u64 1] 42)) w1.heap.size (.cells #[.int .u64 0, .int .u64 1] 42) := Box.put _ rfl
  have hg1 := gets_ok (ByteArray.mk #[49, 56, 52, 52, 54, 55, 52, 52, 48, 55, 51, 55, 48, 57, 53, 53, 49, 54, 49, 54]) (seg_big E2) (Or.inr (by decide)) (by decide) (by simp) rfl
  have hB2 := hB1.trans (q2.mono hB1.size)
  clear hput
  go_wp2_with fail
  refine hg1.mono ?_
  rintro e w2 ⟨rfl, hb2⟩
  have hB3 := hB2.trans (hb2.mono hB2.size)
  have hg2 := gets_no (ByteArray.mk #[48, 48, 55]) 6 1 (w := w2) (by decide) rfl
  clear hg1
  go_wp2_with fail
  refine hg2.mono ?_
  rintro e w3 ⟨rfl, hb3⟩
  go_wp2
  go_ret
  exact ⟨rfl, hB3.trans (hb3.mono hB3.size)⟩
theorem text_both {b : Bool} {xs ds : List Int} (hl : xs.length ≤ 1000) (hl2 : ds.length ≤ 1000) : ∃ (T : ByteArray) (er : Int),
    (∀ {lo : Nat} {a c : Option Addr} {ca cc : Nat} {w : World}, Fr lo w a ca xs c cc ds → Calls Tryz.prog 7 #[.agg #[.bool b, .slice a xs.length ca, .slice c ds.length cc]] w fun e w' => e = .returned (.tuple #[.string T, .int .i64 er]) ∧ Below w.heap.size w w') ∧
    (∀ {lo : Nat} {a c : Option Addr} {ca cc : Nat} {w : World}, Fr lo w a ca xs c cc ds → Calls Tryz.prog 8 #[.agg #[.bool b, .slice a xs.length ca, .slice c ds.length cc]] w fun e w' => e = .returned (.tuple #[.string T, .int .i64 er]) ∧ Below w.heap.size w w') := by
  by_cases h : formR b xs ds = 0
  · exact ⟨_, _, fun FA => text_ok b FA hl hl2 h, fun FA => jtext_ok b FA hl hl2 h⟩
  · exact ⟨_, _, fun FA => text_no b FA hl hl2 h, fun FA => jtext_no b FA hl hl2 h⟩
set_option maxRecDepth 100000 in
set_option maxHeartbeats 8000000 in
theorem fractions_far {a c : Option Addr} {ca cc : Nat} {xs ds : List Int} {w : World} (b : Bool) (s : ByteArray) (FA : Fr 0 w a ca xs c cc ds) (h : 12 < xs.length ∨ 12 < ds.length) :
    Calls Tryz.prog 3 #[.agg #[.bool b, .slice a xs.length ca, .slice c ds.length cc], .string s] w fun e w' => e = .returned (.bool true) ∧ Below w.heap.size w w' := by
  have hd : decide ((12 : Int) < (xs.length : Int) ∨ (12 : Int) < (ds.length : Int)) = true := decide_eq_true (by omega)
  have hlong := fun w => longr_any b a xs ca c ds cc 12 w
  rw [hd] at hlong
  clear hd
  have hB := Below.refl w.heap.size w
  have qER := below_new w (.cells #[.bool b, .slice a xs.length ca, .slice c ds.length cc] 27)
  replace FA := FA.below qER
  replace hB := hB.trans (qER.mono hB.size)
  clear qER
  have ER := Box.put (w := w) (k := (w.heap.size)) (.cells #[.bool b, .slice a xs.length ca, .slice c ds.length cc] 27) rfl
  go_enter Tryz.func3, Tryz.ntmps3
  obtain ⟨k1a, k1b, k1c, f1a, f1b, f1c⟩ := ER.three
  go_wp2_with fail
  clear k1a k1b k1c f1a f1b f1c
  obtain ⟨u2, hname⟩ := nm hB
  rw [hname] at FA ER hB ⊢
  clear hname
  refine (hlong _).mono ?_
  rintro e w3 ⟨rfl, hb⟩
  replace FA := FA.below hb
  replace ER := ER.below hb
  replace hB := hB.trans (hb.mono hB.size)
  clear hb
  clear hlong
  go_wp2_with fail
  refine (dawake_any _).mono ?_
  rintro e w4 ⟨rfl, hb⟩
  replace FA := FA.below hb
  replace ER := ER.below hb
  replace hB := hB.trans (hb.mono hB.size)
  clear hb
  go_wp2
  go_ret
  exact ⟨rfl, hB⟩
set_option maxRecDepth 100000 in
set_option maxHeartbeats 8000000 in
theorem fractions_mid {a c : Option Addr} {ca cc : Nat} {xs ds : List Int} {w : World} (b : Bool) (s : ByteArray) (FA : Fr 0 w a ca xs c cc ds) (hl : xs.length ≤ 12) (hl2 : ds.length ≤ 12) (h : 300 < s.size ∧ s.size ≤ 10000) :
    Calls Tryz.prog 3 #[.agg #[.bool b, .slice a xs.length ca, .slice c ds.length cc], .string s] w fun e w' => e = .returned (.bool true) ∧ Below w.heap.size w w' := by
  have hd : decide ((12 : Int) < (xs.length : Int) ∨ (12 : Int) < (ds.length : Int)) = false := decide_eq_false (by omega)
  have hlong := fun w => longr_any b a xs ca c ds cc 12 w
  rw [hd] at hlong
  clear hd
  have h3 : (300 : Int) < (s.size : Int) := by omega
  have h4 : (s.size : Int) ≤ 10000 := by omega
  have hB := Below.refl w.heap.size w
  have qER := below_new w (.cells #[.bool b, .slice a xs.length ca, .slice c ds.length cc] 27)
  replace FA := FA.below qER
  replace hB := hB.trans (qER.mono hB.size)
  clear qER
  have ER := Box.put (w := w) (k := (w.heap.size)) (.cells #[.bool b, .slice a xs.length ca, .slice c ds.length cc] 27) rfl
  go_enter Tryz.func3, Tryz.ntmps3
  obtain ⟨k1a, k1b, k1c, f1a, f1b, f1c⟩ := ER.three
  go_wp2_with fail
  clear k1a k1b k1c f1a f1b f1c
  obtain ⟨u2, hname⟩ := nm hB
  rw [hname] at FA ER hB ⊢
  clear hname
  refine (hlong _).mono ?_
  rintro e w3 ⟨rfl, hb⟩
  replace FA := FA.below hb
  replace ER := ER.below hb
  replace hB := hB.trans (hb.mono hB.size)
  clear hb
  clear hlong
  go_wp2_with fail
  refine (dawake_any _).mono ?_
  rintro e w4 ⟨rfl, hb⟩
  replace FA := FA.below hb
  replace ER := ER.below hb
  replace hB := hB.trans (hb.mono hB.size)
  clear hb
  go_wp2
  go_ret
  exact ⟨rfl, hB⟩
set_option maxRecDepth 100000 in
set_option maxHeartbeats 8000000 in
theorem fractions_main {a c : Option Addr} {ca cc : Nat} {xs ds : List Int} {w : World} (b : Bool) (s : ByteArray) (FA : Fr 0 w a ca xs c cc ds) (hl : xs.length ≤ 12) (hl2 : ds.length ≤ 12) (_h : s.size ≤ 300 ∨ 10000 < s.size) (cond : (¬ (300 : Int) < (s.size : Int)) ∨ ((300 : Int) < (s.size : Int) ∧ ¬ (s.size : Int) ≤ 10000)) :
    Calls Tryz.prog 3 #[.agg #[.bool b, .slice a xs.length ca, .slice c ds.length cc], .string s] w fun e w' => e = .returned (.bool true) ∧ Below w.heap.size w w' := by
  have hd : decide ((12 : Int) < (xs.length : Int) ∨ (12 : Int) < (ds.length : Int)) = false := decide_eq_false (by omega)
  have hlong := fun w => longr_any b a xs ca c ds cc 12 w
  rw [hd] at hlong
  clear hd
  obtain ⟨T, er, ht1, ht2⟩ := text_both (b := b) (xs := xs) (ds := ds) (by omega) (by omega)
  have hr1 := fun w => read_any s w (by omega)
  have hr2 := fun w => jread_any s w (by omega)
  have hB := Below.refl w.heap.size w
  have qER := below_new w (.cells #[.bool b, .slice a xs.length ca, .slice c ds.length cc] 27)
  replace FA := FA.below qER
  replace hB := hB.trans (qER.mono hB.size)
  clear qER
  have ER := Box.put (w := w) (k := (w.heap.size)) (.cells #[.bool b, .slice a xs.length ca, .slice c ds.length cc] 27) rfl
  go_enter Tryz.func3, Tryz.ntmps3
  obtain ⟨k1a, k1b, k1c, f1a, f1b, f1c⟩ := ER.three
  rcases cond with hc | ⟨hc, hc2⟩
  all_goals
    go_wp2_with fail
    clear k1a k1b k1c f1a f1b f1c
    obtain ⟨u1, hname⟩ := nm hB
    rw [hname] at FA ER hB ⊢
    clear hname
    refine (hlong _).mono ?_
    rintro e w1 ⟨rfl, hb⟩
    replace FA := FA.below hb
    replace ER := ER.below hb
    replace hB := hB.trans (hb.mono hB.size)
    clear hb
    obtain ⟨k2a, k2b, k2c, f2a, f2b, f2c⟩ := ER.three
    go_wp2_with fail
    clear k2a k2b k2c f2a f2b f2c
    refine (copyr_any b FA (by omega) (by omega)).mono ?_
    rintro e w3 ⟨a1, ca1, c1, cc1, rfl, FI, hb⟩
    replace FA := FA.below hb
    replace ER := ER.below hb
    replace hB := hB.trans (hb.mono hB.size)
    clear hb
    have qEI := below_new w3 (.cells #[.bool b, .slice a1 xs.length ca1, .slice c1 ds.length cc1] 27)
    replace FA := FA.below qEI
    replace ER := ER.below qEI
    replace FI := FI.below qEI
    replace hB := hB.trans (qEI.mono hB.size)
    clear qEI
    have EI := Box.put (w := w3) (k := (w3.heap.size)) (.cells #[.bool b, .slice a1 xs.length ca1, .slice c1 ds.length cc1] 27) rfl
    obtain ⟨k4a, k4b, k4c, f4a, f4b, f4c⟩ := EI.three
    go_wp2_with fail
    clear k4a k4b k4c f4a f4b f4c
    obtain ⟨u5, hname⟩ := nm hB
    rw [hname] at FA ER FI EI hB ⊢
    clear hname
    refine (ht1 FI).mono ?_
    rintro e w6 ⟨rfl, hb⟩
    replace FA := FA.below hb
    replace ER := ER.below hb
    replace FI := FI.below hb
    replace EI := EI.below hb
    replace hB := hB.trans (hb.mono hB.size)
    clear hb
    obtain ⟨k7a, k7b, k7c, f7a, f7b, f7c⟩ := ER.three
    go_wp2_with fail
    clear k7a k7b k7c f7a f7b f7c
    refine (ht2 FA).mono ?_
    rintro e w8 ⟨rfl, hb⟩
    replace FA := FA.below hb
    replace ER := ER.below hb
    replace FI := FI.below hb
    replace EI := EI.below hb
    replace hB := hB.trans (hb.mono hB.size)
    clear hb
    have FA8 := FA
    have ER8 := ER
    have FI8 := FI
    have EI8 := EI
    have hB8 := hB
    have hL := Below.refl w8.heap.size w8
    go_wp2_with fail
    refine (hr1 _).mono ?_
    rintro e w9 ⟨b2, a2, ca2, xs2, c2, cc2, ds2, e2, p2, rfl, FX, AX, IX, lx, ld, hb⟩
    replace FA := FA.below hb
    replace ER := ER.below hb
    replace FI := FI.below hb
    replace EI := EI.below hb
    replace hB := hB.trans (hb.mono hB.size)
    replace hL := hL.trans (hb.mono hL.size)
    have HIX := hide IX
    have HAX := hide AX
    clear IX AX
    clear hb
    have qEX := below_new w9 (.cells #[.bool b2, .slice a2 xs2.length ca2, .slice c2 ds2.length cc2] 27)
    replace FA := FA.below qEX
    replace ER := ER.below qEX
    replace FI := FI.below qEX
    replace EI := EI.below qEX
    replace FX := FX.below qEX
    replace hB := hB.trans (qEX.mono hB.size)
    replace hL := hL.trans (qEX.mono hL.size)
    clear qEX
    have EX := Box.put (w := w9) (k := (w9.heap.size)) (.cells #[.bool b2, .slice a2 xs2.length ca2, .slice c2 ds2.length cc2] 27) rfl
    have qEG := below_new (w9.alloc (.cells #[.bool b2, .slice a2 xs2.length ca2, .slice c2 ds2.length cc2] 27)) (.cells #[.int .i64 e2, .int .i64 p2] 35)
    replace FA := FA.below qEG
    replace ER := ER.below qEG
    replace FI := FI.below qEG
    replace EI := EI.below qEG
    replace FX := FX.below qEG
    replace EX := EX.below qEG
    replace hB := hB.trans (qEG.mono hB.size)
    replace hL := hL.trans (qEG.mono hL.size)
    clear qEG
    have EG := Box.put (w := (w9.alloc (.cells #[.bool b2, .slice a2 xs2.length ca2, .slice c2 ds2.length cc2] 27))) (k := (w9.heap.size + 1)) (.cells #[.int .i64 e2, .int .i64 p2] 35) (by simp)
    go_wp2_with fail
    obtain ⟨u10, hname⟩ := nm hB
    rw [hname] at FA ER FI EI FX EX EG hL hB ⊢
    clear hname
    refine (hr2 _).mono ?_
    rintro e w11 ⟨b3, a3, ca3, xs3, c3, cc3, ds3, e3, p3, rfl, FY, IY, hb⟩
    replace FA := FA.below hb
    replace ER := ER.below hb
    replace FI := FI.below hb
    replace EI := EI.below hb
    replace FX := FX.below hb
    replace EX := EX.below hb
    replace EG := EG.below hb
    replace hB := hB.trans (hb.mono hB.size)
    replace hL := hL.trans (hb.mono hL.size)
    clear hb
    obtain ⟨rfl, rfl, rfl, rfl, rfl⟩ := HIX.out.unique IY FX.up.words FX.down.words FY.up.words FY.down.words
    clear HIX IY
    have qEY := below_new w11 (.cells #[.bool b2, .slice a3 xs2.length ca3, .slice c3 ds2.length cc3] 27)
    replace FA := FA.below qEY
    replace ER := ER.below qEY
    replace FI := FI.below qEY
    replace EI := EI.below qEY
    replace FX := FX.below qEY
    replace EX := EX.below qEY
    replace EG := EG.below qEY
    replace FY := FY.below qEY
    replace hB := hB.trans (qEY.mono hB.size)
    replace hL := hL.trans (qEY.mono hL.size)
    clear qEY
    have EY := Box.put (w := w11) (k := (w11.heap.size)) (.cells #[.bool b2, .slice a3 xs2.length ca3, .slice c3 ds2.length cc3] 27) rfl
    have qEH := below_new (w11.alloc (.cells #[.bool b2, .slice a3 xs2.length ca3, .slice c3 ds2.length cc3] 27)) (.cells #[.int .i64 e2, .int .i64 p2] 35)
    replace FA := FA.below qEH
    replace ER := ER.below qEH
    replace FI := FI.below qEH
    replace EI := EI.below qEH
    replace FX := FX.below qEH
    replace EX := EX.below qEH
    replace EG := EG.below qEH
    replace FY := FY.below qEH
    replace EY := EY.below qEH
    replace hB := hB.trans (qEH.mono hB.size)
    replace hL := hL.trans (qEH.mono hL.size)
    clear qEH
    have EH := Box.put (w := (w11.alloc (.cells #[.bool b2, .slice a3 xs2.length ca3, .slice c3 ds2.length cc3] 27))) (k := (w11.heap.size + 1)) (.cells #[.int .i64 e2, .int .i64 p2] 35) (by simp)
    obtain ⟨k12a, k12b, k12c, f12a, f12b, f12c⟩ := EX.three
    obtain ⟨k13a, k13b, f13a, f13b⟩ := EG.two
    obtain ⟨k14a, k14b, k14c, f14a, f14b, f14c⟩ := EY.three
    obtain ⟨k15a, k15b, f15a, f15b⟩ := EH.two
    go_wp2_with fail
    clear k12a k12b k12c f12a f12b f12c k13a k13b f13a f13b k14a k14b k14c f14a f14b f14c k15a k15b f15a f15b
    obtain ⟨u16, hname⟩ := nm hB
    rw [hname] at FA ER FI EI FX EX EG FY EY EH hL hB ⊢
    clear hname
    refine (samer_yes b2 FX FY lx ld).mono ?_
    rintro e w17 ⟨rfl, hb⟩
    replace FA := FA.below hb
    replace ER := ER.below hb
    replace FI := FI.below hb
    replace EI := EI.below hb
    replace FX := FX.below hb
    replace EX := EX.below hb
    replace EG := EG.below hb
    replace FY := FY.below hb
    replace EY := EY.below hb
    replace EH := EH.below hb
    replace hB := hB.trans (hb.mono hB.size)
    replace hL := hL.trans (hb.mono hL.size)
    clear hb
    obtain ⟨k18a, k18b, k18c, f18a, f18b, f18c⟩ := EX.three
    obtain ⟨k19a, k19b, f19a, f19b⟩ := EG.two
    obtain ⟨k20a, k20b, f20a, f20b⟩ := EH.two
    go_wp2_with fail
    clear k18a k18b k18c f18a f18b f18c k19a k19b f19a f19b k20a k20b f20a f20b
    refine (overr_any b2 FX HAX.out lx ld hL.size).mono ?_
    rintro e w21 ⟨rfl, hbo, _⟩
    replace hL := hL.trans hbo
    replace hB := hB8.trans (hL.mono hB8.size)
    have FA9 := FA8.below hL
    have FI9 := FI8.below hL
    have ER9 := ER8.below hL
    have EI9 := EI8.below hL
    clear FA FI ER EI EX EG EY EH FX FY hbo hL hB8 FA8 FI8 ER8 EI8
    obtain ⟨k22a, k22b, k22c, f22a, f22b, f22c⟩ := ER9.three
    obtain ⟨k23a, k23b, k23c, f23a, f23b, f23c⟩ := EI9.three
    go_wp2_with fail
    clear k22a k22b k22c f22a f22b f22c k23a k23b k23c f23a f23b f23c
    refine (samer_yes b FI9 FA9 (by omega) (by omega)).mono ?_
    rintro e w24 ⟨rfl, hb⟩
    replace FA9 := FA9.below hb
    replace FI9 := FI9.below hb
    replace ER9 := ER9.below hb
    replace EI9 := EI9.below hb
    replace hB := hB.trans (hb.mono hB.size)
    clear hb
    go_wp2_with fail
    refine (dawake_any _).mono ?_
    rintro e w25 ⟨rfl, hb⟩
    replace FA9 := FA9.below hb
    replace FI9 := FI9.below hb
    replace ER9 := ER9.below hb
    replace EI9 := EI9.below hb
    replace hB := hB.trans (hb.mono hB.size)
    clear hb
    go_wp2
    go_ret
    exact ⟨rfl, hB⟩
theorem fractions_any {a c : Option Addr} {ca cc : Nat} {xs ds : List Int} {w : World} (b : Bool) (s : ByteArray) (FA : Fr 0 w a ca xs c cc ds) :
    Calls Tryz.prog 3 #[.agg #[.bool b, .slice a xs.length ca, .slice c ds.length cc], .string s] w fun e w' => e = .returned (.bool true) ∧ Below w.heap.size w w' := by
  by_cases h1 : 12 < xs.length ∨ 12 < ds.length
  · exact fractions_far b s FA h1
  · by_cases h2 : 300 < s.size ∧ s.size ≤ 10000
    · exact fractions_mid b s FA (by omega) (by omega) h2
    · exact fractions_main b s FA (by omega) (by omega) (by omega) (by omega)
end Go.Proofs.YtfcpaejeppedoaaGreatDoor
