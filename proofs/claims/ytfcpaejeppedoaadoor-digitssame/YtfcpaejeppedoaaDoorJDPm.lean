/-
  Joined: DPm DPn DPp.
-/
import Derived.Test.YtfcpaejeppedoaaDoorJFeeds
import Derived.Test.YtfcpaejeppedoaaDoorJRDiv
import Derived.Test.YtfcpaejeppedoaaDoorJSigB
import Derived.Test.YtfcpaejeppedoaaDoorShelf
import Derived.Lib.IndexLaws
import Derived.WalkKit
import Derived.OwnWalkIn
import Derived.TacticsInMore
import Derived.LoopNIn
import Derived.LoopIn
import Derived.Test.YtfcpaejeppedoaaDoorJCmp
import Derived.RangeFuncBox
import Derived.Maps.AppendAt
namespace Go.Proofs.YtfcpaejeppedoaaDoor
open Go.RowKit
attribute [local go_sem] Oper.semAt_some
def CutAt (R : List Int) (pre : List (List Int)) (r : List Int) : Prop := R = (pre.map (· ++ [47])).flatten ++ r ∧ ∀ p ∈ pre, (47 : Int) ∉ p
def LastAt (R : List Int) (xs : List (List Int)) : Prop := ∃ pre x, xs = pre ++ [x] ∧ CutAt R pre x ∧ (47 : Int) ∉ x
def GotAt (R : List Int) (pre : List (List Int)) : Prop := (∃ r, CutAt R pre r) ∨ LastAt R pre
theorem CutAt.nil (R : List Int) : CutAt R [] R := ⟨by simp, fun p h => by simp at h⟩
theorem CutAt.step {R r x y : List Int} {pre : List (List Int)} (h : CutAt R pre r) (e : r = x ++ 47 :: y) (hx : (47 : Int) ∉ x) : CutAt R (pre ++ [x]) y := by
  refine ⟨?_, fun p hp => ?_⟩
  · rw [h.1, e]
    simp
  · rcases List.mem_append.1 hp with hp | hp
    · exact h.2 p hp
    · rw [List.mem_singleton.1 hp]; exact hx
theorem octs_get (s : ByteArray) (k : Nat) : (octs s)[k]? = (s.data.toList[k]?).map (fun b : UInt8 => (b.toNat : Int)) := by
  rw [octs, List.getElem?_map]
theorem u8_47 {b : UInt8} : ((b.toNat : Nat) : Int) = 47 ↔ b = 47 := by
  constructor
  · intro h
    apply UInt8.toNat_inj.1
    show b.toNat = 47
    omega
  · intro h; rw [h]; rfl
theorem index_none {r : ByteArray} (h : Lib.indexByte r.data.toList 47 = -1) : (47 : Int) ∉ octs r := by
  intro hm
  obtain ⟨k, hk, e⟩ := List.getElem_of_mem hm
  have h1 : (octs r)[k]? = some 47 := by rw [List.getElem?_eq_getElem hk, e]
  rw [octs_get] at h1
  obtain ⟨b, hb, e2⟩ := Option.map_eq_some_iff.1 h1
  rw [u8_47] at e2
  subst e2
  exact Lib.indexByte_none h k hb
theorem index_some {r : ByteArray} {o : Nat} (h : Lib.indexByte r.data.toList 47 = (o : Int)) : o < r.size ∧ (47 : Int) ∉ (octs r).take o ∧ octs r = (octs r).take o ++ 47 :: (octs r).drop (o + 1) := by
  obtain ⟨h1, h2⟩ := Lib.indexByte_some h
  have ho : o < r.data.toList.length := (List.getElem?_eq_some_iff.1 h1).1
  have hor : o < r.size := by simpa using ho
  have hol : o < (octs r).length := by rw [octs_len]; exact hor
  have he : (octs r)[o]? = some 47 := by rw [octs_get, h1]; rfl
  refine ⟨hor, fun hm => ?_, ?_⟩
  · obtain ⟨k, hk, e⟩ := List.getElem_of_mem hm
    rw [List.length_take] at hk
    have h3 : (octs r)[k]? = some 47 := by
      rw [List.getElem_take] at e
      rw [List.getElem?_eq_getElem (by omega), e]
    rw [octs_get] at h3
    obtain ⟨b, hb, e2⟩ := Option.map_eq_some_iff.1 h3
    rw [u8_47] at e2
    subst e2
    exact h2 k (by omega) hb
  · conv => lhs; rw [← List.take_append_drop o (octs r), List.drop_eq_getElem_cons hol]
    rw [List.getElem?_eq_getElem hol] at he
    injection he with he
    rw [he]
theorem octs_ext (s : ByteArray) (i j : Nat) : octs (s.extract i j) = ((octs s).drop i).take (j - i) := by
  unfold octs
  rw [ByteArray.data_extract, Array.toList_extract, List.extract, List.map_take, List.map_drop]
def cellText (W : World) (k : Nat) : Nat :=
  match W.cell? ⟨k, 0, none⟩ with
  | some (.string r) => r.size
  | _ => 0
theorem cellText_eq {W : World} {k : Nat} {r : ByteArray} {t : TypeId} (E : Box W k (.cells #[.string r] t (0, 0))) : cellText W k = r.size := by
  unfold cellText
  rw [cell_of_heap E.what 0]
  rfl
theorem Box.heap {W W' : World} {k : Nat} {o : Obj} (h : Box W k o) (e : W'.heap[k]? = W.heap[k]?) : Box W' k o := ⟨(Array.getElem?_eq_some_iff.1 (e.trans h.what)).1, e.trans h.what⟩
set_option maxRecDepth 100000 in
set_option maxHeartbeats 4000000 in
theorem split1_in (d : Nat) (hd : 1 ≤ d) (l Bs : Nat) (s : ByteArray) (hs : s.size ≤ 10000) (J Jx : List ByteArray → World → Prop) (hJB : ∀ pre V v, J pre V → J pre (V.setCell ⟨Bs, 0, none⟩ v))
    (hY : ∀ pre x V, J pre V → GotAt (octs s) ((pre ++ [x]).map octs) → YieldAt Fence.wide (d - 1) Tryd.prog l #[.string x] V fun e V' => (e = .returned (.bool true) ∧ J (pre ++ [x]) V' ∧ ∀ k, Bs ≤ k → k < Bs + 3 → V'.heap[k]? = V.heap[k]?) ∨ (e = .returned (.bool false) ∧ Jx (pre ++ [x]) V'))
    (W : World) (E0 : Box W Bs (.cells #[.string s] 9)) (E1 : Box W (Bs + 1) (.cells #[.string ⟨#[47]⟩] 9)) (E2 : Box W (Bs + 2) (.cells #[.int .i64 0] 3)) (h0 : J [] W) :
    CallsIn Fence.wide d Tryd.prog 88 #[.func (.yield l) #[] #[], .pointer (some ⟨Bs + 1, 0, none⟩), .pointer (some ⟨Bs, 0, none⟩), .pointer (some ⟨Bs + 2, 0, none⟩)] W fun e V => (∃ v, e = .returned v) ∧
      ((∃ ys, LastAt (octs s) (ys.map octs) ∧ J ys V) ∨ (∃ pre, GotAt (octs s) (pre.map octs) ∧ Jx pre V)) := by
  have HC0 : Hid (CutAt (octs s) (([] : List ByteArray).map octs) (octs s)) := CutAt.nil _
  refine callsIn_of_wp Tryd.func88 rfl trivial ?_ rfl
  simp only [Tryd.ntmps88, List.size_toArray, List.length_cons, List.length_nil, Nat.reduceAdd, Nat.reduceSub, Array.replicate_succ, Array.replicate_zero, List.push_toArray, List.append_toArray, List.nil_append, List.cons_append]
  obtain ⟨k1, f1⟩ := E1.one
  gi_wp2
  gi_loopw [7] (fun iv wr => ∃ (pre : List ByteArray) (r : ByteArray), Box wr Bs (.cells #[.string r] 9) ∧ Box wr (Bs + 1) (.cells #[.string ⟨#[47]⟩] 9) ∧ Box wr (Bs + 2) (.cells #[.int .i64 0] 3) ∧ J pre wr ∧ r.size ≤ 10000 ∧ Hid (CutAt (octs s) (pre.map octs) (octs r)))
    (fun _ wr => cellText wr Bs)
  case atStart => exact ⟨[], s, E0, E1, E2, h0, hs, HC0⟩
  case round =>
    clear HC0 E0 E1 E2 h0 k1 f1
    obtain ⟨pre, r, E0, E1, E2, hJ, hrs, HC⟩ := hrel
    obtain ⟨k0, f0⟩ := E0.one
    obtain ⟨k1, f1⟩ := E1.one
    obtain ⟨k2, f2⟩ := E2.one
    have hix := fun w => Tryd.strings_Index_one r 47 w
    have hge := Lib.indexByte_ge r.data.toList 47
    have hio : Lib.indexByte r.data.toList 47 = -1 ∨ ∃ o : Nat, Lib.indexByte r.data.toList 47 = (o : Int) := by
      by_cases h : Lib.indexByte r.data.toList 47 = -1
      · exact Or.inl h
      · exact Or.inr ⟨(Lib.indexByte r.data.toList 47).toNat, by omega⟩
    rcases hio with hi | ⟨o, hi⟩
    · have HN := hide (index_none hi)
      rw [hi] at hix
      have HG : Hid (LastAt (octs s) ((pre ++ [r]).map octs)) := ⟨pre.map octs, octs r, by rw [List.map_append]; rfl, HC.out, HN.out⟩
      obtain ⟨fn, tmps, assign, body, hy, hR⟩ := hY pre r wr hJ (Or.inr HG.out)
      clear hi hge hY
      gi_wp2_with (refine ⟨trivial, ?_⟩; gi_at_call 90; refine (callsIn_wide.2 (hix _)).mono ?_; rintro e w1 ⟨rfl, rfl⟩)
      refine hR.mono ?_
      rintro e W3 (⟨rfl, hJ3, hk3⟩ | ⟨rfl, hJx3⟩)
      · gi_wp2
        go_end0
        exact ⟨⟨_, rfl⟩, .inl ⟨pre ++ [r], HG.out, hJ3⟩⟩
      · gi_wp2
        go_end0
        exact ⟨⟨_, rfl⟩, .inr ⟨pre ++ [r], Or.inr HG.out, hJx3⟩⟩
    · obtain ⟨hor, hno, he⟩ := index_some hi
      rw [hi] at hix
      obtain ⟨F, hF⟩ : ∃ F, r.extract 0 o = F := ⟨_, rfl⟩
      obtain ⟨G, hG⟩ : ∃ G, r.extract (o + 1) r.size = G := ⟨_, rfl⟩
      have HF : octs F = (octs r).take o := by rw [← hF, octs_ext, List.drop_zero, Nat.sub_zero]
      have HG : octs G = (octs r).drop (o + 1) := by rw [← hG, octs_ext, List.take_of_length_le (by rw [List.length_drop, octs_len]; omega)]
      have HC2 : Hid (CutAt (octs s) ((pre ++ [F]).map octs) (octs G)) := by
        rw [Hid, List.map_append]
        refine HC.out.step (x := octs F) (y := octs G) ?_ (by rw [HF]; exact hno)
        rw [HF, HG]
        exact he
      have HZ : Hid (G.size < r.size) := by rw [Hid, ← octs_len G, HG, List.length_drop, octs_len]; omega
      obtain ⟨fn, tmps, assign, body, hy, hR⟩ := hY pre F wr hJ (Or.inl ⟨_, HC2.out⟩)
      have ho0 : ¬ (o : Int) < 0 := by omega
      have ho1 : (0 : Int) ≤ (o : Int) := by omega
      have ho2 : (o : Int) ≤ (r.size : Int) := by omega
      have ho3 : (o : Int) + 1 ≤ (r.size : Int) := by omega
      have ho4 : (0 : Int) ≤ (o : Int) + 1 := by omega
      have hw1 : IntKind.i64.wrap ((o : Int) + 0) = (o : Int) := by rw [IntKind.wrap_i64]; omega
      have hw2 : IntKind.i64.wrap ((o : Int) + 1) = (o : Int) + 1 := by rw [IntKind.wrap_i64]; omega
      have hw3 : IntKind.i64.wrap (o : Int) = (o : Int) := by rw [IntKind.wrap_i64]; omega
      have hto : ((o : Int) + 1).toNat = o + 1 := by omega
      clear hi hge hY hno he HF HG
      gi_wp2_with (refine ⟨trivial, ?_⟩; gi_at_call 90; refine (callsIn_wide.2 (hix _)).mono ?_; rintro e w1 ⟨rfl, rfl⟩)
      refine hR.mono ?_
      rintro e W3 (⟨rfl, hJ3, hk3⟩ | ⟨rfl, hJx3⟩)
      · have X0 := E0.heap (hk3 Bs (Nat.le_refl _) (by omega))
        have X1 := E1.heap (hk3 (Bs + 1) (by omega) (by omega))
        have X2 := E2.heap (hk3 (Bs + 2) (by omega) (by omega))
        clear k0 k1 k2 f0 f1 f2
        obtain ⟨k0, f0⟩ := X0.one
        obtain ⟨k1, f1⟩ := X1.one
        have hJ4 := hide (hJB (pre ++ [F]) W3 (.string G) hJ3)
        have HM : Hid (cellText (W3.setCell ⟨Bs, 0, none⟩ (.string G)) Bs < cellText w1 Bs) := by
          rw [Hid, cellText_eq (X0.set1 (.string G)), cellText_eq E0]
          exact HZ.out
        have Y0 := hide (X0.set1 (.string G))
        have Y1 := hide (X1.turns (turns1 Bs W3 (.string G)) (by omega))
        have Y2 := hide (X2.turns (turns1 Bs W3 (.string G)) (by omega))
        have HZ2 : Hid (G.size ≤ 10000) := by rw [Hid]; have := HZ.out; omega
        gi_wp2
        exact ⟨⟨pre ++ [F], G, Y0.out, Y1.out, Y2.out, hJ4.out, HZ2.out, HC2⟩, HM.out⟩
      · gi_wp2
        refine bodyPost_ret (results_none rfl _ _ _) rfl ?_
        exact ⟨⟨_, rfl⟩, .inr ⟨pre ++ [F], Or.inl ⟨_, HC2.out⟩, hJx3⟩⟩
theorem cut_one {R x : List Int} (h : GotAt R [x]) : (47 : Int) ∉ x ∧ (R = x ∨ ∃ r, R = x ++ 47 :: r) := by
  rcases h with ⟨r, h1, h2⟩ | ⟨pre, y, e, ⟨h1, h2⟩, h3⟩
  · exact ⟨h2 x (by simp), Or.inr ⟨r, by simpa using h1⟩⟩
  · cases pre with
    | nil =>
      have e2 : x = y := by simpa using e
      subst e2
      exact ⟨h3, Or.inl (by simpa using h1)⟩
    | cons p ps => simp at e
theorem cut_two {R x y : List Int} (h : GotAt R [x, y]) : (47 : Int) ∉ x ∧ (47 : Int) ∉ y ∧ (R = x ++ 47 :: y ∨ ∃ r, R = x ++ 47 :: (y ++ 47 :: r)) := by
  rcases h with ⟨r, h1, h2⟩ | ⟨pre, z, e, ⟨h1, h2⟩, h3⟩
  · exact ⟨h2 x (by simp), h2 y (by simp), Or.inr ⟨r, by simpa using h1⟩⟩
  · match pre, e with
    | [p], e =>
      have e2 : x = p ∧ y = z := by simpa using e
      obtain ⟨rfl, rfl⟩ := e2
      exact ⟨h2 x (by simp), h3, Or.inl (by simpa using h1)⟩
    | p :: q :: ps, e => simp at e
theorem cut_three {R x y z : List Int} (h : GotAt R [x, y, z]) : (47 : Int) ∉ x ∧ ∃ r, R = x ++ 47 :: r ∧ (47 : Int) ∈ r := by
  rcases h with ⟨r, h1, h2⟩ | ⟨pre, t, e, ⟨h1, h2⟩, h3⟩
  · exact ⟨h2 x (by simp), y ++ 47 :: (z ++ 47 :: r), by simpa using h1, by simp⟩
  · match pre, e with
    | [p, q], e =>
      have e2 : x = p ∧ y = q ∧ z = t := by simpa using e
      obtain ⟨rfl, rfl, rfl⟩ := e2
      exact ⟨h2 x (by simp), y ++ 47 :: z, by simpa using h1, by simp⟩
    | p :: q :: o :: ps, e => simp at e
theorem cut_unique {x y x' y' : List Int} (h : x ++ 47 :: y = x' ++ 47 :: y') (hx : (47 : Int) ∉ x) (hx' : (47 : Int) ∉ x') : x = x' ∧ y = y' := by
  induction x generalizing x' with
  | nil =>
    cases x' with
    | nil => exact ⟨rfl, by simpa using h⟩
    | cons b bs => simp at h; exact absurd (by rw [h.1]; simp) hx'
  | cons a l ih =>
    cases x' with
    | nil => simp at h; exact absurd (by rw [h.1]; simp) hx
    | cons b bs =>
      simp only [List.cons_append, List.cons.injEq] at h
      obtain ⟨e1, e2⟩ := ih h.2 (fun hm => hx (List.mem_cons_of_mem _ hm)) (fun hm => hx' (List.mem_cons_of_mem _ hm))
      exact ⟨by rw [h.1, e1], e2⟩
def OneNum (R : List Int) (u : Int) : Prop := (47 : Int) ∉ R ∧ getP R = .ok u
def TwoNum (R : List Int) (u d : Int) : Prop := ∃ x y, R = x ++ 47 :: y ∧ (47 : Int) ∉ x ∧ (47 : Int) ∉ y ∧ getP x = .ok u ∧ getP y = .ok d
def NoNum (R : List Int) : Prop := (∀ u, ¬ OneNum R u) ∧ ∀ u d, ¬ TwoNum R u d
theorem mem_cut {x y : List Int} : (47 : Int) ∈ x ++ 47 :: y := by simp
theorem no_first {R x : List Int} {e : Int × Int} (h : GotAt R [x]) (he : getP x = .error e) : NoNum R := by
  obtain ⟨hx, h | ⟨r, h⟩⟩ := cut_one h
  · subst h
    refine ⟨fun u hu => ?_, fun u d ⟨a, b, e1, _, _, _, _⟩ => hx (e1 ▸ mem_cut)⟩
    rw [hu.2] at he; cases he
  · subst h
    refine ⟨fun u hu => hu.1 mem_cut, fun u d ⟨a, b, e1, ha, _, ga, _⟩ => ?_⟩
    obtain ⟨e2, _⟩ := cut_unique e1 hx ha
    rw [← e2, he] at ga; cases ga
theorem no_second {R x y : List Int} {e : Int × Int} (h : GotAt R [x, y]) (he : getP y = .error e) : NoNum R := by
  obtain ⟨hx, hy, h | ⟨r, h⟩⟩ := cut_two h
  · subst h
    refine ⟨fun u hu => hu.1 mem_cut, fun u d ⟨a, b, e1, ha, _, _, gb⟩ => ?_⟩
    obtain ⟨_, e2⟩ := cut_unique e1 hx ha
    rw [← e2, he] at gb; cases gb
  · subst h
    refine ⟨fun u hu => hu.1 mem_cut, fun u d ⟨a, b, e1, ha, hb, _, _⟩ => ?_⟩
    obtain ⟨_, e2⟩ := cut_unique e1 hx ha
    exact hb (e2 ▸ mem_cut)
theorem no_third {R x y z : List Int} (h : GotAt R [x, y, z]) : NoNum R := by
  obtain ⟨hx, r, h, hr⟩ := cut_three h
  subst h
  refine ⟨fun u hu => hu.1 mem_cut, fun u d ⟨a, b, e1, ha, hb, _, _⟩ => ?_⟩
  obtain ⟨_, e2⟩ := cut_unique e1 hx ha
  exact hb (e2 ▸ hr)
theorem last_one {R x : List Int} {u : Int} (h : LastAt R [x]) (g : getP x = .ok u) : OneNum R u := by
  obtain ⟨pre, y, e, ⟨h1, h2⟩, h3⟩ := h
  cases pre with
  | nil =>
    have e2 : x = y := by simpa using e
    subst e2
    have h1 : R = x := by simpa using h1
    subst h1
    exact ⟨h3, g⟩
  | cons p ps => simp at e
theorem last_two {R x y : List Int} {u d : Int} (h : LastAt R [x, y]) (g : getP x = .ok u) (g2 : getP y = .ok d) : TwoNum R u d := by
  obtain ⟨pre, z, e, ⟨h1, h2⟩, h3⟩ := h
  match pre, e with
  | [p], e =>
    have e2 : x = p ∧ y = z := by simpa using e
    obtain ⟨rfl, rfl⟩ := e2
    exact ⟨x, y, by simpa using h1, h2 x (by simp), h3, g, g2⟩
  | p :: q :: ps, e => simp at e
theorem last_ne {R : List Int} (h : LastAt R []) : False := by
  obtain ⟨pre, z, e, _⟩ := h
  simp at e
theorem got_len {R x : List Int} {pre : List (List Int)} (h : GotAt R (pre ++ [x])) : x.length ≤ R.length := by
  rcases h with ⟨r, h1, _⟩ | ⟨p, y, e, ⟨h1, _⟩, _⟩
  · rw [h1]; simp; omega
  · have e2 : x = y := by
      have := congrArg List.getLast? e
      simpa using this
    subst e2
    rw [h1]; simp
inductive Kids (lo : Nat) (W : World) (pv : Value) : List (List Int) → List Value → Prop
  | zero : Kids lo W pv [] []
  | one {x : List Int} {a : Option Addr} {c : Nat} {z : List Int} (S : Seg lo W (.slice a z.length c) z) (n : Norm z) (g : getP x = .ok (val z)) (l : z.length ≤ x.length) (F : z ≠ [] → ∀ b o, a = some ⟨b, o, none⟩ → pv.ownBlock ≠ some b) : Kids lo W pv [x] [.slice a z.length c]
  | two {x y : List Int} {a b : Option Addr} {c d : Nat} {z t : List Int} (S : Seg lo W (.slice a z.length c) z) (n : Norm z) (g : getP x = .ok (val z)) (l : z.length ≤ x.length)
      (T : Seg lo W (.slice b t.length d) t) (m : Norm t) (k : getP y = .ok (val t)) (r : t.length ≤ y.length) (A : Apart a b z t) : Kids lo W pv [x, y] [.slice a z.length c, .slice b t.length d]
theorem Kids.to {lo : Nat} {W W' : World} {pv : Value} {xs : List (List Int)} {vs : List Value} (h : Kids lo W pv xs vs) (k : ∀ sv zs, Seg lo W sv zs → Seg lo W' sv zs) : Kids lo W' pv xs vs := by
  cases h with
  | zero => exact .zero
  | one S n g l F => exact .one (k _ _ S) n g l F
  | two S n g l T m q r A => exact .two (k _ _ S) n g l (k _ _ T) m q r A
theorem Kids.mono {lo lo' : Nat} {W : World} {pv : Value} {xs : List (List Int)} {vs : List Value} (h : Kids lo W pv xs vs) (hl : lo' ≤ lo) : Kids lo' W pv xs vs := by
  cases h with
  | zero => exact .zero
  | one S n g l F => exact .one (S.mono hl) n g l F
  | two S n g l T m q r A => exact .two (S.mono hl) n g l (T.mono hl) m q r A
theorem Kids.len {lo : Nat} {W : World} {pv : Value} {xs : List (List Int)} {vs : List Value} (h : Kids lo W pv xs vs) : vs.length = xs.length ∧ xs.length ≤ 2 := by
  cases h <;> simp
theorem Kids.bad {lo : Nat} {W : World} {pv : Value} {R y : List Int} {xs : List (List Int)} {vs : List Value} (h : Kids lo W pv xs vs) (hg : GotAt R (xs ++ [y])) (he : (∃ e, getP y = .error e) ∨ ¬ vs.length < 2) : NoNum R := by
  cases h with
  | zero =>
    rcases he with ⟨e, he⟩ | he
    · exact no_first hg he
    · exact absurd (by decide) he
  | one S n g l F =>
    rcases he with ⟨e, he⟩ | he
    · exact no_second hg he
    · exact absurd (by simp) he
  | two => exact no_third hg
theorem seg_row_keep {lo : Nat} {W W' : World} {a : Option Addr} {n cap : Nat} {zs : List Int} (h : Seg lo W (.slice a n cap) zs) (hk : zs ≠ [] → ∀ b o, a = some ⟨b, o, none⟩ → lo ≤ b → b < W.heap.size → W'.heap[b]? = W.heap[b]?) (hs : W.heap.size ≤ W'.heap.size) : Seg lo W' (.slice a n cap) zs := by
  obtain ⟨hw, a', cap', e, h1, h3⟩ := h
  simp only [Value.slice.injEq] at e
  obtain ⟨rfl, e2, rfl⟩ := e
  refine ⟨hw, a, cap, by rw [e2], h1, fun hz => ?_⟩
  obtain ⟨b, off, e1, e2, e3, e4, e5⟩ := h3 hz
  have hb := hk hz b off e1 e2 e3
  exact ⟨b, off, e1, e2, by omega, fun j hj => (World.cell?_of_block (a := ⟨b, off + j, none⟩) hb).trans (e4 j hj), fun j hj => (World.frozen?_of_block (a := ⟨b, off + j, none⟩) hb).trans (e5 j hj)⟩
theorem seg_at_least {lo : Nat} {W : World} {a : Option Addr} {n cap : Nat} {zs : List Int} (h : Seg lo W (.slice a n cap) zs) (hz : zs ≠ []) {b o : Nat} (e : a = some ⟨b, o, none⟩) : lo ≤ b ∧ b < W.heap.size := by
  obtain ⟨hw, a', cap', e', h1, h3⟩ := h
  simp only [Value.slice.injEq] at e'
  obtain ⟨rfl, _, rfl⟩ := e'
  obtain ⟨b', o', e1, e2, e3, _, _⟩ := h3 hz
  rw [e] at e1
  simp only [Option.some.injEq, Addr.mk.injEq] at e1
  obtain ⟨rfl, _⟩ := e1
  exact ⟨e2, e3⟩
def OwnN (lo : Nat) (W : World) (v : Value) (vs : List Value) : Prop := W.ownsRow lo 23 1 v vs.length vs
theorem infoNat : (Tryd.prog.info? 23).map (fun i => (i.zero, i.size, i.bytes)) = some (some (.slice none 0 0), 1, 24) := by kernel_rfl
theorem ownn_nil (lo : Nat) (W : World) : OwnN lo W (.slice none 0 0) [] := World.ownsRow_nil W lo _ _
theorem ownn_append {lo : Nat} {w : World} {v : Value} {vs : List Value} (h : OwnN lo w v vs) (a : Option Addr) (n c : Nat) (hl : vs.length ≤ 1000) (hlo : lo ≤ w.heap.size) :
    ∃ b' cap' w', (Builtin.append_ #[107, 107] 107 #[v, .slice (some ⟨w.heap.size, 0, none⟩) 1 1]).run Tryd.prog (w.alloc (.cells #[.slice a n c] 23)) = .ok (.slice (some ⟨b', 0, none⟩) (vs.length + 1) cap') w' ∧ OwnN lo w' (.slice (some ⟨b', 0, none⟩) (vs.length + 1) cap') (vs ++ [.slice a n c]) ∧ (w.alloc (.cells #[.slice a n c] 23)).grownBy w' v.ownBlock ∧ (some b' = v.ownBlock ∨ b' = w.heap.size + 1) := by
  obtain ⟨i0, hi, hz0, hz1, hz2⟩ := info_parts infoNat
  obtain ⟨v', w', hr, hown, hg, _, hat⟩ := run_append_own_at (P := Tryd.prog) (w.alloc (.cells #[.slice a n c] 23)) lo 107 107 23 i0 (.slice none 0 0) 1 24 Tryd.underlying107 hi hz0 hz1 hz2 rfl (by decide)
    v vs.length vs (h.alloc _) ⟨w.heap.size, 0, none⟩ 1 1 [.slice a n c] rfl
    (fun j u hj => by
      obtain rfl : j = 0 := by
        cases j with
        | zero => rfl
        | succ j => simp at hj
      obtain rfl : Value.slice a n c = u := by simpa using hj
      rw [Addr.add_lit]
      exact cell_of_heap (World.alloc_heap_new w _) 0)
    (fun u hu => by obtain rfl : u = .slice a n c := by simpa using hu
                    rfl) (by unfold maxLen; omega) (by omega) (by simp; omega)
  have hlen : (vs ++ [Value.slice a n c]).length = vs.length + 1 := by simp
  obtain ⟨b', cap', e⟩ := ownsRow_succ hown
  subst e
  refine ⟨b', cap', w', hr, ?_, hg, ?_⟩
  rotate_left
  · rcases hat with h | h
    · exact Or.inl h
    · right
      simp only [Value.ownBlock, World.size_alloc, Option.some.injEq] at h
      exact h
  unfold OwnN
  rw [hlen]
  exact hown
theorem OwnN.mono {lo lo' : Nat} {W : World} {v : Value} {vs : List Value} (h : OwnN lo W v vs) (hb : lo' ≤ lo) : OwnN lo' W v vs := by
  obtain ⟨h1, h2⟩ := h
  refine ⟨h1, ?_⟩
  rcases h2 with ⟨e, h0⟩ | ⟨g, cap, cur, e, hg, r⟩
  · exact .inl ⟨e, h0⟩
  · exact .inr ⟨g, cap, cur, e, Nat.le_trans hb hg, r⟩
theorem ownn_cells {lo : Nat} {W : World} {v : Value} {vs : List Value} (h : OwnN lo W v vs) (t : Obj) : ∀ j o, v.ownBlock = some j → (W.alloc t).heap[j]? = some o → o.isCells = true := by
  intro j o ej hj
  rcases h.2 with ⟨rfl, _⟩ | ⟨g, cap, cur, rfl, _, hgb, _⟩
  · simp [Value.ownBlock] at ej
  · obtain rfl : g = j := by simpa [Value.ownBlock] using ej
    rw [Below.heap_alloc _ _ _ (Array.getElem?_eq_some_iff.1 hgb).1, hgb] at hj
    cases hj
    rfl
theorem Kids.next {lo : Nat} {W V W' : World} {pv pv' : Value} {xs : List (List Int)} {vs : List Value} {y : List Int} {a : Option Addr} {c : Nat} {z : List Int} (h : Kids lo W pv xs vs) (h2 : vs.length < 2) (hO : OwnN lo W pv vs) (hlo : lo ≤ W.heap.size)
    (hWV : Below W.heap.size W V) (S : Seg W.heap.size V (.slice a z.length c) z) (n : Norm z) (g : getP y = .ok (val z)) (l : z.length ≤ y.length)
    (hk : ∀ b, lo ≤ b → b < V.heap.size → pv.ownBlock ≠ some b → W'.heap[b]? = V.heap[b]?) (hs : V.heap.size ≤ W'.heap.size) (hp : pv'.ownBlock = pv.ownBlock ∨ ∃ f, pv'.ownBlock = some f ∧ V.heap.size ≤ f) :
    Kids lo W' pv' (xs ++ [y]) (vs ++ [.slice a z.length c]) := by
  have hlt := hO.lt
  have S' : Seg lo W' (.slice a z.length c) z := (seg_row_keep S (fun hz b o e h1 h2 => hk b (by omega) h2 (fun e2 => by have := (hlt b e2).2; omega)) hs).mono hlo
  cases h with
  | zero =>
    refine .one S' n g l fun hz b o e e2 => ?_
    obtain ⟨b1, b2⟩ := seg_at_least S hz e
    rcases hp with hp | ⟨f, hf, hfs⟩
    · rw [hp] at e2
      have := (hlt b e2).2
      omega
    · rw [hf] at e2
      injection e2 with e2
      omega
  | one S1 n1 g1 l1 F1 =>
    refine .two (seg_row_keep (S1.below hWV) (fun hz b o e h1 h2 => hk b h1 h2 (F1 hz b o e)) hs) n1 g1 l1 S' n g l ?_
    exact apart_of (fun hz b o e => (seg_at_least S1 hz e).2) S (Nat.le_refl _)
  | two => simp at h2
theorem ownn_form {lo : Nat} {W : World} {v : Value} {vs : List Value} (h : OwnN lo W v vs) : ∃ a c, v = .slice a vs.length c := by
  rcases h.2 with ⟨rfl, h0⟩ | ⟨g, cap, cur, rfl, _⟩
  · exact ⟨none, 0, by rw [h0]⟩
  · exact ⟨_, _, rfl⟩
theorem ownn_below {lo : Nat} {w w' : World} {v : Value} {vs : List Value} (h : OwnN lo w v vs) (hb : Below w.heap.size w w') : OwnN lo w' v vs := by
  obtain ⟨h1, h2⟩ := h
  refine ⟨h1, ?_⟩
  rcases h2 with ⟨e, h0⟩ | ⟨g, cap, cur, e, hg, hh, hc, hm, hs, ht⟩
  · exact .inl ⟨e, h0⟩
  · exact .inr ⟨g, cap, cur, e, hg, (hb.block g (Array.getElem?_eq_some_iff.1 hh).1).trans hh, hc, hm, hs, ht⟩
theorem GetIs.split {T : Except (Int × Int) Int} {zs : List Int} {e p : Int} (h : GetIs T zs e p) : (T = .ok (val zs) ∧ Norm zs ∧ e = 0 ∧ p = 0) ∨ (T = .error (e, p) ∧ zs = []) := by
  cases h with
  | ok hn hv => exact Or.inl ⟨by rw [hv], hn, rfl, rfl⟩
  | err e p => exact Or.inr ⟨rfl, rfl⟩
theorem getP_err {bs : List Int} {e p : Int} (h : getP bs = .error (e, p)) : e ≠ 0 := by
  unfold getP at h
  split at h
  · cases h; decide
  · split at h
    · cases h
    · cases h; decide
def NoText (bs : List Int) : Prop := ∀ (b : Bool) (xs ds : List Int), Words xs → Words ds → LowL b xs ds → textZ b (val xs) (val ds) ≠ bs
structure SignAt (bs : List Int) (bl : Bool) (R : List Int) : Prop where
  eq : bs = (if bl then [45] else []) ++ R
  no : bl = false → bs.head? ≠ some 45
theorem SignAt.of_text {bs R : List Int} {bl : Bool} (h : SignAt bs bl R) {b : Bool} {u d : Int} (ht : textZ b u d = bs) : b = bl ∧ R = restZ u d := by
  have e := h.eq
  rw [← ht, textZ_rest] at e
  cases b <;> cases bl
  · exact ⟨rfl, by simpa using e.symm⟩
  · exact absurd (by rw [show restZ u d = 45 :: R by simpa using e]; rfl) (rest_head u d)
  · exact absurd (by rw [← ht, textZ_rest]; rfl) (h.no rfl)
  · exact ⟨rfl, by simpa using e.symm⟩
theorem decI_no (v : Int) : (47 : Int) ∉ decI v := fun h => by have := decI_dig v 47 h; omega
theorem rest_parts {u d : Int} (hu : 0 ≤ u) (hd : 0 ≤ d) (hl : (restZ u d).length ≤ 10000) : (d = 1 ∧ OneNum (restZ u d) u) ∨ (d ≠ 1 ∧ TwoNum (restZ u d) u d) := by
  have key : ∀ v, 0 ≤ v → (decI v).length ≤ 10000 → getP (decI v) = .ok v := fun v hv h => (getP_ok (decI_octs v) v).2 (getZ_dec hv h)
  unfold restZ at hl ⊢
  by_cases h : d = 1
  · rw [if_pos h, List.append_nil] at hl ⊢
    exact Or.inl ⟨h, decI_no u, key u hu hl⟩
  · rw [if_neg h] at hl ⊢
    rw [List.length_append, List.length_cons] at hl
    exact Or.inr ⟨h, decI u, decI d, rfl, decI_no u, decI_no d, key u hu (by omega), key d hd (by omega)⟩
theorem SignAt.len {bs R : List Int} {bl : Bool} (h : SignAt bs bl R) : R.length ≤ bs.length := by
  rw [h.eq, List.length_append]
  omega
theorem no_numbers {bs R : List Int} {bl : Bool} (h : SignAt bs bl R) (hl : bs.length ≤ 10000) (hn : NoNum R) : NoText bs := fun b xs ds wx wd low ht => by
  obtain ⟨_, e⟩ := h.of_text ht
  have hl2 := h.len
  rw [e] at hn hl2
  rcases rest_parts (val_nonneg wx) (val_nonneg wd) (by omega) with ⟨_, h1⟩ | ⟨_, h1⟩
  · exact hn.1 _ h1
  · exact hn.2 _ _ h1
theorem no_one {bs R : List Int} {bl : Bool} (h : SignAt bs bl R) (hl : bs.length ≤ 10000) {u : Int} (hn : TwoNum R u 1) : NoText bs := fun b xs ds wx wd low ht => by
  obtain ⟨_, e⟩ := h.of_text ht
  have hl2 := h.len
  obtain ⟨x, y, e1, hx, hy, gx, gy⟩ := hn
  rw [e] at e1 hl2
  rcases rest_parts (val_nonneg wx) (val_nonneg wd) (by omega) with ⟨_, h1⟩ | ⟨h0, x', y', e2, hx', hy', gx', gy'⟩
  · exact h1.1 (by rw [e1]; exact mem_cut)
  · rw [e2] at e1
    obtain ⟨e3, e4⟩ := cut_unique e1 hx' hx
    rw [e4, gy] at gy'
    injection gy' with e5
    exact h0 e5.symm
theorem text_one {bs R : List Int} {bl : Bool} (h : SignAt bs bl R) (ho : Octs R) {u : Int} (hn : OneNum R u) : textZ bl u 1 = bs := by
  obtain ⟨_, e, _⟩ := dec_getZ ho ((getP_ok ho u).1 hn.2)
  rw [h.eq, textZ_rest, restZ, if_pos rfl, List.append_nil, ← e]
theorem text_two {bs R : List Int} {bl : Bool} (h : SignAt bs bl R) (ho : Octs R) {u d : Int} (hd : d ≠ 1) (hn : TwoNum R u d) : textZ bl u d = bs := by
  obtain ⟨x, y, e1, hx, hy, gx, gy⟩ := hn
  have hox : Octs x := fun z hz => ho z (by rw [e1]; simp [hz])
  have hoy : Octs y := fun z hz => ho z (by rw [e1]; simp [hz])
  obtain ⟨_, ex, _⟩ := dec_getZ hox ((getP_ok hox u).1 gx)
  obtain ⟨_, ey, _⟩ := dec_getZ hoy ((getP_ok hoy d).1 gy)
  rw [h.eq, textZ_rest, restZ, if_neg hd, ← ex, ← ey, e1]
theorem no_form {bs : List Int} {b : Bool} {xs ds : List Int} (wx : Words xs) (wd : Words ds) (nx : Norm xs) (nd : Norm ds) (ht : textZ b (val xs) (val ds) = bs) (hf : formR b xs ds ≠ 0) : NoText bs := fun b' xs' ds' wx' wd' low ht' => by
  obtain ⟨e1, e2, e3⟩ := textZ_inj (val_nonneg wx') (val_nonneg wd') (val_nonneg wx) (val_nonneg wd) (ht'.trans ht.symm)
  have e4 := norm_unique wx' wx low.1.1 nx e2
  have e5 := norm_unique wd' wd low.2.1 nd e3
  subst e1; subst e4; subst e5
  exact hf ((formR_low wx' wd').2 low)
end Go.Proofs.YtfcpaejeppedoaaDoor
