/-
  Tables of locks of one's own: a lock is put behind a row; withLock of the program.
-/
import Derived.Test.YtbaggkfgnjenoaaLkL
import Derived.Test.YtbaggkfgnjenoaaLkF
import Derived.Test.YtbaggkfgnjenoaaApG
namespace Go.Proofs.Ytbaggkfgnjenoaa
open Go.RowKit
set_option linter.unusedVariables false
theorem lkq_one (l : List LK) : ∀ u ∈ lcs l, u.oneCell' = true := lcs_one l
theorem wpList_append_lk {w : World} {ops : Array Oper} {rest : List Oper} {o : Oper} {a : Act} {Q : Exit → Act → World → Prop} (hgd : o.guard = none) (s x : Operand)
    (ho : o.op = .call { callee := .builtin .append, args := #[s, x], argTypes := #[23, 23] }) (B : Nat) (v : Value) (l : List LK) (hs : a.eval s = v) (hown : LW w B v l)
    (g : Nat) (y : LK) (hx : a.eval x = .slice (some ⟨g, 0, none⟩) 1 1) (hB : Bk w g 31 (lcs [y])) (hb : l.length ≤ 1048576) (hbase : B ≤ w.heap.size)
    (h : ∀ a' n' c' w', LW w' B (.slice a' n' c') (l ++ [y]) → w.grownBy w' v.ownBlock → ((Value.slice a' n' c').ownBlock = v.ownBlock ∨ (Value.slice a' n' c').ownBlock = some w.heap.size) → wpList Try.prog ops Q rest (a.put o.dst (.slice a' n' c')) w') : wpList Try.prog ops Q (o :: rest) a w := by
  obtain ⟨i, hi, hz, hsz, hby⟩ := info_of infoLockI
  refine wpList_append_row_at hgd s x 23 ho B 31 i _ 6 64 Try.underlying23 hi hz hsz hby rfl (by decide) v l.length (lcs l) hs hown (fun _ => True) _ 1 (lcs [y]) hx (hB.rw (Nat.le_refl _) (by omega) (fun h => by omega) _ trivial) rfl
    (lcs_one _) (by unfold maxLen; omega) (by omega) hbase ?_
  intro v' w' k1 k2 k3
  obtain ⟨a', c', rfl⟩ := own_shape k1
  refine h a' _ c' w' ?_ k2 k3
  show World.ownsRow _ _ _ _ _ _ _
  rw [lcs_append, List.length_append]
  exact k1
theorem LO.pushW {u w2 : World} {B : Nat} {h v v' : Value} {hl wl wl' : List LK} (H : LO u B h v hl wl) (ho : LW w2 B v' wl') (hg : u.grownBy w2 v.ownBlock) (ha : v'.ownBlock = v.ownBlock ∨ v'.ownBlock = some u.heap.size) : LO w2 B h v' hl wl' := by
  have o : Only (fun y => v.ownBlock = some y) u w2 := only_of_grown hg (fun k e => e)
  refine ⟨H.hh.to o (fun y e e2 => H.apart y e e2), ho, fun y e e2 => ?_⟩
  rcases ha with h1 | h1
  · rw [h1] at e2; exact H.apart y e e2
  · rw [h1] at e2
    have := (H.hh.lt e).2
    cases e2
    omega
theorem LO.pushH {u w2 : World} {B : Nat} {h h' v : Value} {hl wl hl' : List LK} (H : LO u B h v hl wl) (ho : LW w2 B h' hl') (hg : u.grownBy w2 h.ownBlock) (ha : h'.ownBlock = h.ownBlock ∨ h'.ownBlock = some u.heap.size) : LO w2 B h' v hl' wl := by
  have o : Only (fun y => h.ownBlock = some y) u w2 := only_of_grown hg (fun k e => e)
  refine ⟨ho, H.hw.to o (fun y e e2 => H.apart y e2 e), fun y e e2 => ?_⟩
  rcases ha with h1 | h1
  · rw [h1] at e; exact H.apart y e e2
  · rw [h1] at e
    have := (H.hw.lt e2).2
    cases e
    omega
theorem putL_yes {h l : List LK} {x : LK} (e : mustW h l x = true) : putL h l x = (h, l ++ [x]) := by rw [putL, e]; rfl
theorem putL_no {h l : List LK} {x : LK} (e : mustW h l x = false) : putL h l x = (h ++ [x], l) := by rw [putL, e]; rfl
/-- What withLock leaves. -/
def WlPost (w : World) (B : Nat) (h v : Value) (hl wl : List LK) (x : LK) (e : Ending) (w' : World) : Prop :=
  ∃ a n c a' n' c', e = .returned (.tuple #[.agg #[.slice a n c, .slice a' n' c'], .bool (!mustW hl wl x)]) ∧ LO w' B (.slice a n c) (.slice a' n' c') (putL hl wl x).1 (putL hl wl x).2 ∧ Only (lbl h v) w w' ∧ (∀ y, lbl (.slice a n c) (.slice a' n' c') y → lbl h v y ∨ w.heap.size ≤ y)
set_option maxHeartbeats 8000000 in
theorem withLock_any (B : Nat) (ha : Option Addr) (hn hc : Nat) (wa : Option Addr) (wn wc : Nat) (hl wl : List LK) (c e n : Int) (lo hi : ByteArray) (ex : Bool) (w : World) (h : LO w B (.slice ha hn hc) (.slice wa wn wc) hl wl) (hB : B ≤ w.heap.size) (hsz0 : hl.length ≤ 1048576) (hsz1 : wl.length ≤ 1048576) :
    Calls Try.prog 51 #[.agg #[.slice ha hn hc, .slice wa wn wc], .agg #[.int .i64 c, .int .i64 e, .int .i64 n, .string lo, .string hi, .bool ex]] w fun r w' => WlPost w B (.slice ha hn hc) (.slice wa wn wc) hl wl ((c, e, n), (lo, hi), ex) r w' := by
  have HB0 := hid hB
  have B0 : Hid (Below w.heap.size w (((w.alloc (.cells #[.slice ha hn hc, .slice wa wn wc] 25)).alloc (.cells #[.int .i64 c, .int .i64 e, .int .i64 n, .string lo, .string hi, .bool ex] 31)).alloc (.cells #[.slice none 0 0, .slice none 0 0] 25))) := below_new (below_new (below_new (Below.refl _ _)))
  have K0 := hid (((Bk.new w 25 [.slice ha hn hc, .slice wa wn wc]).alloc (.cells #[.int .i64 c, .int .i64 e, .int .i64 n, .string lo, .string hi, .bool ex] 31)).alloc (.cells #[.slice none 0 0, .slice none 0 0] 25))
  have J0 := hid ((Bk.new (w.alloc (.cells #[.slice ha hn hc, .slice wa wn wc] 25)) 31 [.int .i64 c, .int .i64 e, .int .i64 n, .string lo, .string hi, .bool ex]).alloc (.cells #[.slice none 0 0, .slice none 0 0] 25))
  have I0 := hid (Bk.new ((w.alloc (.cells #[.slice ha hn hc, .slice wa wn wc] 25)).alloc (.cells #[.int .i64 c, .int .i64 e, .int .i64 n, .string lo, .string hi, .bool ex] 31)) 25 [.slice none 0 0, .slice none 0 0])
  rw [show (w.alloc (.cells #[.slice ha hn hc, .slice wa wn wc] 25)).heap.size = w.heap.size + 1 by simp] at J0
  rw [show ((w.alloc (.cells #[.slice ha hn hc, .slice wa wn wc] 25)).alloc (.cells #[.int .i64 c, .int .i64 e, .int .i64 n, .string lo, .string hi, .bool ex] 31)).heap.size = w.heap.size + 1 + 1 by simp] at I0
  have H0 := hid h
  have HLT : Hid (∀ y, lbl (.slice ha hn hc) (.slice wa wn wc) y → y < w.heap.size) := fun y hy => (h.lt hy).2
  have C1 := hid (fun v h1 h2 => mustWait_any (fun _ => True) (fun _ => True) ha hn hc wa wn wc hl wl c e n lo hi ex v h1 h2)
  clear h hB
  have HM0 : Hid (∀ z, mustW hl wl ((c, e, n), (lo, hi), ex) = z → mustW hl wl ((c, e, n), (lo, hi), ex) = z) := fun _ h => h
  generalize hz : mustW hl wl ((c, e, n), (lo, hi), ex) = z at C1
  have HM := hid hz
  clear hz HM0
  unfold WlPost
  go_enter Try.func51, Try.ntmps51
  go_wp2_with fail
  refine (C1.out _ (H0.out.hh.lr.below B0.out) (H0.out.hw.lr.below B0.out)).mono ?_
  generalize ((w.alloc (.cells #[.slice ha hn hc, .slice wa wn wc] 25)).alloc (.cells #[.int .i64 c, .int .i64 e, .int .i64 n, .string lo, .string hi, .bool ex] 31)).alloc (.cells #[.slice none 0 0, .slice none 0 0] 25) = U at *
  rintro r w1 ⟨rfl, hb⟩
  have B1 := hid (B0.out.trans (hb.mono B0.out.size))
  have O1 := hid (H0.out.below B1.out)
  have K1 := hid (K0.out.below hb)
  have J1 := hid (J0.out.below hb)
  have I1 := hid (I0.out.below hb)
  have HS1 : Hid (w.heap.size + 1 + 1 < w1.heap.size) := I1.out.lt
  clear hb B0 K0 J0 I0 H0 C1
  cases z with
  | true =>
    have HPL := hid (putL_yes HM.out)
    have x0 := J1.out.cell (j := 0) rfl
    have x1 := J1.out.cell (j := 1) rfl
    have x2 := J1.out.cell (j := 2) rfl
    have x3 := J1.out.cell (j := 3) rfl
    have x4 := J1.out.cell (j := 4) rfl
    have x5 := J1.out.cell (j := 5) rfl
    have y1 := K1.out.cell (j := 1) rfl
    have HN : Hid (Bk (w1.alloc (.cells #[.int .i64 c, .int .i64 e, .int .i64 n, .string lo, .string hi, .bool ex] 31)) w1.heap.size 31 (lcs [((c, e, n), (lo, hi), ex)])) := Bk.new w1 31 [.int .i64 c, .int .i64 e, .int .i64 n, .string lo, .string hi, .bool ex]
    have hb := below_new (o := .cells #[.int .i64 c, .int .i64 e, .int .i64 n, .string lo, .string hi, .bool ex] 31) (w := w1) (Below.refl _ _)
    have O2 := hid (O1.out.below hb)
    have K2 := hid (K1.out.below hb)
    have I2 := hid (I1.out.below hb)
    have B2 := hid (B1.out.trans (hb.mono B1.out.size))
    have Z2 : Hid (B ≤ (w1.alloc (.cells #[.int .i64 c, .int .i64 e, .int .i64 n, .string lo, .string hi, .bool ex] 31)).heap.size) := Nat.le_trans HB0.out B2.out.size
    clear hb O1 B1
    go_wp2_with (at_builtin; refine wpList_append_lk rfl _ _ rfl B _ wl rfl O2.out.hw w1.heap.size ((c, e, n), (lo, hi), ex) rfl HN.out hsz1 Z2.out ?_)
    intro a' n' c' w4 hO4 hg4 ha4
    have P4 := hid (O2.out.pushW hO4 hg4 (by simpa using ha4))
    have o4 : Only (fun y => (Value.slice wa wn wc).ownBlock = some y) (w1.alloc (.cells #[.int .i64 c, .int .i64 e, .int .i64 n, .string lo, .string hi, .bool ex] 31)) w4 := only_of_grown hg4 (fun k e => e)
    have HOL : Hid (∀ y, (Value.slice wa wn wc).ownBlock = some y → y < w.heap.size) := fun y e => HLT.out y (.inr e)
    have K4 := hid (K2.out.to o4 (fun e => by have := HOL.out _ e; omega))
    have I4 := hid (I2.out.to o4 (fun e => by have := HOL.out _ e; omega))
    have L4 : Hid (Only (lbl (.slice ha hn hc) (.slice wa wn wc)) w w4) := (only_of_below B2.out _).then o4 (fun i _ e => .inr e)
    have N4 : Hid (∀ y, lbl (.slice ha hn hc) (.slice a' n' c') y → lbl (.slice ha hn hc) (.slice wa wn wc) y ∨ w1.heap.size ≤ y) := by
      intro y hy
      have key : (Value.slice a' n' c').ownBlock = some y → lbl (.slice ha hn hc) (.slice wa wn wc) y ∨ w1.heap.size ≤ y := by
        intro q
        rcases ha4 with h1 | h1
        · rw [h1] at q; exact .inl (.inr q)
        · rw [h1] at q
          have e3 : w1.heap.size + 1 = y := Option.some.inj q
          exact .inr (by omega)
      rcases hy with e | e
      · exact .inl (.inl e)
      · exact key e
    clear hO4 hg4 ha4 o4 K1 I1 J1 K2 I2 O2 B2 x0 x1 x2 x3 x4 x5 y1
    have y0 := K4.out.cell (j := 0) rfl
    have y1 := K4.out.cell (j := 1) rfl
    have f1 := K4.out.free 1
    have z0 := I4.out.cell (j := 0) rfl
    have z1 := I4.out.cell (j := 1) rfl
    have e0 := I4.out.free 0
    have e1 := I4.out.free 1
    have d2 : ¬ w.heap.size = w.heap.size + 1 + 1 := by omega
    have d3 : ¬ w.heap.size + 1 + 1 = w.heap.size := by omega
    have HF : Hid (∀ W, Only (fun y => y = w.heap.size ∨ y = w.heap.size + 1 + 1) w4 W → LO W B (.slice ha hn hc) (.slice a' n' c') (putL hl wl ((c, e, n), (lo, hi), ex)).1 (putL hl wl ((c, e, n), (lo, hi), ex)).2 ∧ Only (lbl (.slice ha hn hc) (.slice wa wn wc)) w W) := fun W hW => by
      rw [HPL.out]
      refine ⟨P4.out.to hW (fun y hy e => ?_), L4.out.then hW (fun i hi e => by omega)⟩
      have hs1 := HS1.out
      rcases N4.out y hy with h1 | h1
      · have := HLT.out y h1; omega
      · omega
    have N5 : Hid (∀ y, lbl (.slice ha hn hc) (.slice a' n' c') y → lbl (.slice ha hn hc) (.slice wa wn wc) y ∨ w.heap.size ≤ y) := fun y hy => by
      have hs1 := HS1.out
      rcases N4.out y hy with h1 | h1
      · exact .inl h1
      · exact .inr (by omega)
    clear P4 L4 N4 HOL
    go_wp2
    try simp only [Exit.inBlock, Exit.then]
    refine bodyPost_ret (v := .tuple #[.agg #[.slice ha hn hc, .slice a' n' c'], .bool false]) ?_ rfl ?_
    · exact results_locks2 rfl _ _ (w.heap.size + 1 + 1) rfl rfl (by go_simp) (by go_simp)
    · refine ⟨ha, hn, hc, a', n', c', by rw [HM.out]; rfl, (HF.out _ ?_).1, (HF.out _ ?_).2, N5.out⟩
      · exact ((only_set (R := fun y => y = w.heap.size ∨ y = w.heap.size + 1 + 1) (p := ⟨w.heap.size, 1, none⟩) (.inl rfl) _).trans (only_set (R := fun y => y = w.heap.size ∨ y = w.heap.size + 1 + 1) (p := ⟨w.heap.size + 1 + 1, 0, none⟩) (.inr rfl) _)).trans (only_set (R := fun y => y = w.heap.size ∨ y = w.heap.size + 1 + 1) (p := ⟨w.heap.size + 1 + 1, 1, none⟩) (.inr rfl) _)
      · exact ((only_set (R := fun y => y = w.heap.size ∨ y = w.heap.size + 1 + 1) (p := ⟨w.heap.size, 1, none⟩) (.inl rfl) _).trans (only_set (R := fun y => y = w.heap.size ∨ y = w.heap.size + 1 + 1) (p := ⟨w.heap.size + 1 + 1, 0, none⟩) (.inr rfl) _)).trans (only_set (R := fun y => y = w.heap.size ∨ y = w.heap.size + 1 + 1) (p := ⟨w.heap.size + 1 + 1, 1, none⟩) (.inr rfl) _)
  | false =>
    have HPL := hid (putL_no HM.out)
    have x0 := J1.out.cell (j := 0) rfl
    have x1 := J1.out.cell (j := 1) rfl
    have x2 := J1.out.cell (j := 2) rfl
    have x3 := J1.out.cell (j := 3) rfl
    have x4 := J1.out.cell (j := 4) rfl
    have x5 := J1.out.cell (j := 5) rfl
    have y0 := K1.out.cell (j := 0) rfl
    have HN : Hid (Bk (w1.alloc (.cells #[.int .i64 c, .int .i64 e, .int .i64 n, .string lo, .string hi, .bool ex] 31)) w1.heap.size 31 (lcs [((c, e, n), (lo, hi), ex)])) := Bk.new w1 31 [.int .i64 c, .int .i64 e, .int .i64 n, .string lo, .string hi, .bool ex]
    have hb := below_new (o := .cells #[.int .i64 c, .int .i64 e, .int .i64 n, .string lo, .string hi, .bool ex] 31) (w := w1) (Below.refl _ _)
    have O2 := hid (O1.out.below hb)
    have K2 := hid (K1.out.below hb)
    have I2 := hid (I1.out.below hb)
    have B2 := hid (B1.out.trans (hb.mono B1.out.size))
    have Z2 : Hid (B ≤ (w1.alloc (.cells #[.int .i64 c, .int .i64 e, .int .i64 n, .string lo, .string hi, .bool ex] 31)).heap.size) := Nat.le_trans HB0.out B2.out.size
    clear hb O1 B1
    go_wp2_with (at_builtin; refine wpList_append_lk rfl _ _ rfl B _ hl rfl O2.out.hh w1.heap.size ((c, e, n), (lo, hi), ex) rfl HN.out hsz0 Z2.out ?_)
    intro a' n' c' w4 hO4 hg4 ha4
    have P4 := hid (O2.out.pushH hO4 hg4 (by simpa using ha4))
    have o4 : Only (fun y => (Value.slice ha hn hc).ownBlock = some y) (w1.alloc (.cells #[.int .i64 c, .int .i64 e, .int .i64 n, .string lo, .string hi, .bool ex] 31)) w4 := only_of_grown hg4 (fun k e => e)
    have HOL : Hid (∀ y, (Value.slice ha hn hc).ownBlock = some y → y < w.heap.size) := fun y e => HLT.out y (.inl e)
    have K4 := hid (K2.out.to o4 (fun e => by have := HOL.out _ e; omega))
    have I4 := hid (I2.out.to o4 (fun e => by have := HOL.out _ e; omega))
    have L4 : Hid (Only (lbl (.slice ha hn hc) (.slice wa wn wc)) w w4) := (only_of_below B2.out _).then o4 (fun i _ e => .inl e)
    have N4 : Hid (∀ y, lbl (.slice a' n' c') (.slice wa wn wc) y → lbl (.slice ha hn hc) (.slice wa wn wc) y ∨ w1.heap.size ≤ y) := by
      intro y hy
      have key : (Value.slice a' n' c').ownBlock = some y → lbl (.slice ha hn hc) (.slice wa wn wc) y ∨ w1.heap.size ≤ y := by
        intro q
        rcases ha4 with h1 | h1
        · rw [h1] at q; exact .inl (.inl q)
        · rw [h1] at q
          have e3 : w1.heap.size + 1 = y := Option.some.inj q
          exact .inr (by omega)
      rcases hy with e | e
      · exact key e
      · exact .inl (.inr e)
    clear hO4 hg4 ha4 o4 K1 I1 J1 K2 I2 O2 B2 x0 x1 x2 x3 x4 x5 y0
    have y0 := K4.out.cell (j := 0) rfl
    have y1 := K4.out.cell (j := 1) rfl
    have f0 := K4.out.free 0
    have z0 := I4.out.cell (j := 0) rfl
    have z1 := I4.out.cell (j := 1) rfl
    have e0 := I4.out.free 0
    have e1 := I4.out.free 1
    have d2 : ¬ w.heap.size = w.heap.size + 1 + 1 := by omega
    have d3 : ¬ w.heap.size + 1 + 1 = w.heap.size := by omega
    have HF : Hid (∀ W, Only (fun y => y = w.heap.size ∨ y = w.heap.size + 1 + 1) w4 W → LO W B (.slice a' n' c') (.slice wa wn wc) (putL hl wl ((c, e, n), (lo, hi), ex)).1 (putL hl wl ((c, e, n), (lo, hi), ex)).2 ∧ Only (lbl (.slice ha hn hc) (.slice wa wn wc)) w W) := fun W hW => by
      rw [HPL.out]
      refine ⟨P4.out.to hW (fun y hy e => ?_), L4.out.then hW (fun i hi e => by omega)⟩
      have hs1 := HS1.out
      rcases N4.out y hy with h1 | h1
      · have := HLT.out y h1; omega
      · omega
    have N5 : Hid (∀ y, lbl (.slice a' n' c') (.slice wa wn wc) y → lbl (.slice ha hn hc) (.slice wa wn wc) y ∨ w.heap.size ≤ y) := fun y hy => by
      have hs1 := HS1.out
      rcases N4.out y hy with h1 | h1
      · exact .inl h1
      · exact .inr (by omega)
    clear P4 L4 N4 HOL
    go_wp2
    try simp only [Exit.inBlock, Exit.then]
    refine bodyPost_ret (v := .tuple #[.agg #[.slice a' n' c', .slice wa wn wc], .bool true]) ?_ rfl ?_
    · exact results_locks2 rfl _ _ (w.heap.size + 1 + 1) rfl rfl (by go_simp) (by go_simp)
    · refine ⟨a', n', c', wa, wn, wc, by rw [HM.out]; rfl, (HF.out _ ?_).1, (HF.out _ ?_).2, N5.out⟩
      · exact ((only_set (R := fun y => y = w.heap.size ∨ y = w.heap.size + 1 + 1) (p := ⟨w.heap.size, 0, none⟩) (.inl rfl) _).trans (only_set (R := fun y => y = w.heap.size ∨ y = w.heap.size + 1 + 1) (p := ⟨w.heap.size + 1 + 1, 0, none⟩) (.inr rfl) _)).trans (only_set (R := fun y => y = w.heap.size ∨ y = w.heap.size + 1 + 1) (p := ⟨w.heap.size + 1 + 1, 1, none⟩) (.inr rfl) _)
      · exact ((only_set (R := fun y => y = w.heap.size ∨ y = w.heap.size + 1 + 1) (p := ⟨w.heap.size, 0, none⟩) (.inl rfl) _).trans (only_set (R := fun y => y = w.heap.size ∨ y = w.heap.size + 1 + 1) (p := ⟨w.heap.size + 1 + 1, 0, none⟩) (.inr rfl) _)).trans (only_set (R := fun y => y = w.heap.size ∨ y = w.heap.size + 1 + 1) (p := ⟨w.heap.size + 1 + 1, 1, none⟩) (.inr rfl) _)
end Go.Proofs.Ytbaggkfgnjenoaa

