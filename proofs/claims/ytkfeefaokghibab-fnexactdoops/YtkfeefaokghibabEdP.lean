/-
  Edits as plain data, rows of edits; BatchOk on both sides.
-/
import Derived.Test.YtkfeefaokghibabNd
import Derived.Test.YtkfeefaokghibabPgO
namespace Go.Proofs.Ytkfeefaokghibab
open Go.RowKit
set_option linter.unusedVariables false
/-- An edit: its key, its value, whether it is a drop. -/
abbrev ED := ByteArray × ByteArray × Bool
def eAt (l : List ED) (i : Nat) : ED := l[i]?.getD (⟨#[]⟩, ⟨#[]⟩, false)
/-- The cells of a row of edits. -/
def ecs : List ED → List Value
  | [] => []
  | p :: ps => .string p.1 :: .string p.2.1 :: .bool p.2.2 :: ecs ps
theorem ecs_length (l : List ED) : (ecs l).length = l.length * 3 := by
  induction l with
  | nil => rfl
  | cons p ps ih => simp [ecs, ih]; omega
theorem ecs_at (l : List ED) : ∀ i, i < l.length → (ecs l)[i * 3]? = some (.string (eAt l i).1) ∧ (ecs l)[i * 3 + 1]? = some (.string (eAt l i).2.1) ∧ (ecs l)[i * 3 + 2]? = some (.bool (eAt l i).2.2) := by
  induction l with
  | nil => intro i h; exact absurd h (Nat.not_lt_zero _)
  | cons p ps ih =>
    intro i h
    cases i with
    | zero => exact ⟨rfl, rfl, rfl⟩
    | succ i =>
      have := ih i (by simpa using h)
      rw [show (i + 1) * 3 = i * 3 + 3 by omega, show i * 3 + 3 + 1 = i * 3 + 1 + 3 by omega, show i * 3 + 3 + 2 = i * 3 + 2 + 3 by omega]
      exact this
theorem ecs_set (l : List ED) (p : ED) : ∀ j, j < l.length → ecs (l.set j p) = (((ecs l).set (j * 3) (.string p.1)).set (j * 3 + 1) (.string p.2.1)).set (j * 3 + 2) (.bool p.2.2) := by
  induction l with
  | nil => intro j h; exact absurd h (Nat.not_lt_zero _)
  | cons q l ih =>
    intro j h
    cases j with
    | zero => rfl
    | succ j =>
      have := ih j (by simpa using h)
      rw [show (j + 1) * 3 = j * 3 + 3 by omega, show j * 3 + 3 + 1 = j * 3 + 1 + 3 by omega, show j * 3 + 3 + 2 = j * 3 + 2 + 3 by omega]
      show Value.string q.1 :: Value.string q.2.1 :: Value.bool q.2.2 :: ecs (l.set j p) = _
      rw [this]
      rfl
theorem ecs_one (l : List ED) : ∀ u ∈ ecs l, u.oneCell' = true := by
  induction l with
  | nil => intro u hu; cases hu
  | cons p ps ih =>
    intro u hu
    simp only [ecs, List.mem_cons] at hu
    rcases hu with rfl | rfl | rfl | hu
    · rfl
    · rfl
    · rfl
    · exact ih u hu
/-- The slice value v leads to the edits l. -/
def Er (w : World) (S : Nat → Prop) (v : Value) (l : List ED) : Prop := Rw w S v l.length (ecs l)
theorem Er.to {w w' : World} {S R : Nat → Prop} {v : Value} {l : List ED} (h : Er w S v l) (ho : Only R w w') (hd : ∀ b, S b → b < w.heap.size → ¬ R b) : Er w' S v l := Rw.to h ho hd
theorem Er.below {w w' : World} {S : Nat → Prop} {v : Value} {l : List ED} (h : Er w S v l) (hb : Below w.heap.size w w') : Er w' S v l := Rw.to h (only_of_below hb (fun _ => False)) (fun _ _ _ h => h)
theorem Er.mono {w : World} {S R : Nat → Prop} {v : Value} {l : List ED} (h : Er w S v l) (hd : ∀ b, S b → b < w.heap.size → R b) : Er w R v l := Rw.mono h hd
theorem Er.len {w : World} {S : Nat → Prop} {a : Option Addr} {n c : Nat} {l : List ED} (h : Er w S (.slice a n c) l) : n = l.length ∧ n ≤ c ∧ c ≤ 9223372036854775807 := Rw.len h
theorem Er.at {w : World} {S : Nat → Prop} {a : Option Addr} {n c : Nat} {l : List ED} (h : Er w S (.slice a n c) l) (hp : 0 < n) : ∃ b off, a = some ⟨b, off, none⟩ ∧ S b ∧ b < w.heap.size ∧
    ∀ i, i < n → w.cell? ⟨b, off + i * 3, none⟩ = some (.string (eAt l i).1) ∧ w.cell? ⟨b, off + i * 3 + 1, none⟩ = some (.string (eAt l i).2.1) ∧ w.cell? ⟨b, off + i * 3 + 2, none⟩ = some (.bool (eAt l i).2.2) := by
  obtain ⟨b, off, h1, h2, h3, h4⟩ := Rw.at h hp
  refine ⟨b, off, h1, h2, h3, fun i hi => ?_⟩
  have hn := h.len.1
  have := ecs_at l i (by omega)
  exact ⟨h4 _ _ this.1, by rw [Nat.add_assoc]; exact h4 _ _ this.2.1, by rw [Nat.add_assoc]; exact h4 _ _ this.2.2⟩
/-- When an edit, a batch is right. -/
def eOk (e : ED) : Bool := kOk e.1 && (vOk e.2.1 && (!e.2.2 || decide (e.2.1 = ⟨#[]⟩)))
def bOk (l : List ED) : Bool := decide (l.length ≤ 40) && l.all eOk
theorem bOk_no {l : List ED} (h : ¬ l.length ≤ 40) : bOk l = false := by rw [bOk, decide_eq_false h]; rfl
theorem bOk_yes {l : List ED} (h : l.length ≤ 40) : bOk l = l.all eOk := by rw [bOk, decide_eq_true h]; rfl
theorem empty_toList : (⟨#[]⟩ : ByteArray).toList = [] := by rw [ByteArray.toList_eq]
theorem bytes_empty {s : ByteArray} : s.toList = [] ↔ s = ⟨#[]⟩ := by
  constructor
  · intro h
    exact str_ext (h.trans empty_toList.symm)
  · rintro rfl; exact empty_toList
theorem load_edit {w : World} {g : Nat} {k v : ByteArray} {b : Bool} (c0 : w.cell? ⟨g, 0, none⟩ = some (.string k)) (c1 : w.cell? ⟨g, 1, none⟩ = some (.string v)) (c2 : w.cell? ⟨g, 2, none⟩ = some (.bool b)) :
    (loadVar 52 ⟨g, 0, none⟩).run Try.prog w = .ok (.agg #[.string k, .string v, .bool b]) w := by go_simp
set_option maxHeartbeats 1600000 in
theorem editOk_any (k v : ByteArray) (b : Bool) (w : World) : Calls Try.prog 27 #[.agg #[.string k, .string v, .bool b]] w fun e w' => e = .returned (.bool (eOk (k, v, b))) ∧ Below w.heap.size w w' := by
  have HB := hid (below_new (o := .cells #[.string k, .string v, .bool b] 52) (w := w) (Below.refl _ _))
  have hnot : ∀ (x : Bool) (w : World), (Op.unary .not (.bool x)).run Try.prog w = .ok (.bool (!x)) w := fun _ _ => rfl
  cases h1 : kOk k
  · have HE : Hid (eOk (k, v, b) = false) := by show _ = _; simp [eOk, h1]
    have HK := hid (implKeyOk_is k false h1)
    clear h1
    go_enter Try.func27, Try.ntmps27
    go_wp2_with fail
    refine (HK.out _).mono ?_
    rintro e w1 ⟨rfl, rfl⟩
    go_wp2
    go_ret
    exact ⟨by rw [HE.out]; rfl, HB.out⟩
  · have HK := hid (implKeyOk_is k true h1)
    cases h2 : vOk v
    · have HE : Hid (eOk (k, v, b) = false) := by show _ = _; simp [eOk, h2]
      have HV := hid (implValOk_any v)
      rw [h2] at HV
      clear h1 h2
      go_enter Try.func27, Try.ntmps27
      go_wp2_with fail
      refine (HK.out _).mono ?_
      rintro e w1 ⟨rfl, rfl⟩
      go_wp2_with fail
      refine (HV.out _).mono ?_
      rintro e w2 ⟨rfl, rfl⟩
      go_wp2
      go_ret
      exact ⟨by rw [HE.out]; rfl, HB.out⟩
    · have HV := hid (implValOk_any v)
      rw [h2] at HV
      cases b with
      | false =>
        have HE : Hid (eOk (k, v, false) = true) := by show _ = _; simp [eOk, h1, h2]
        clear h1 h2
        go_enter Try.func27, Try.ntmps27
        go_wp2_with fail
        refine (HK.out _).mono ?_
        rintro e w1 ⟨rfl, rfl⟩
        go_wp2_with fail
        refine (HV.out _).mono ?_
        rintro e w2 ⟨rfl, rfl⟩
        go_wp2
        go_ret
        exact ⟨by rw [HE.out]; rfl, HB.out⟩
      | true =>
        by_cases h3 : v = ⟨#[]⟩
        · subst h3
          have HE : Hid (eOk (k, ⟨#[]⟩, true) = true) := by show _ = _; simp [eOk, h1, h2]
          clear h1 h2
          go_enter Try.func27, Try.ntmps27
          go_wp2_with fail
          refine (HK.out _).mono ?_
          rintro e w1 ⟨rfl, rfl⟩
          go_wp2_with fail
          refine (HV.out _).mono ?_
          rintro e w2 ⟨rfl, rfl⟩
          go_wp2
          go_ret
          exact ⟨by rw [HE.out]; rfl, HB.out⟩
        · have HE : Hid (eOk (k, v, true) = false) := by show _ = _; simp [eOk, h3]
          have t1 : ¬ (v.toList = []) := fun e => h3 (bytes_empty.1 e)
          have t2 : v.toList.isEmpty = false := by cases h : v.toList with | nil => exact absurd h t1 | cons _ _ => rfl
          have t3 : (v.toList == []) = false := by cases h : v.toList with | nil => exact absurd h t1 | cons _ _ => rfl
          clear h1 h2 h3
          go_enter Try.func27, Try.ntmps27
          go_wp2_with fail
          refine (HK.out _).mono ?_
          rintro e w1 ⟨rfl, rfl⟩
          go_wp2_with fail
          refine (HV.out _).mono ?_
          rintro e w2 ⟨rfl, rfl⟩
          go_wp2
          go_ret
          exact ⟨by rw [HE.out]; rfl, HB.out⟩
set_option maxHeartbeats 800000 in
theorem batchFn_any (k v : ByteArray) (b : Bool) (w : World) : Calls Try.prog 26 #[.agg #[.string k, .string v, .bool b]] w fun e w' => e = .returned (.bool (!eOk (k, v, b))) ∧ Below w.heap.size w w' := by
  have HB := hid (below_new (o := .cells #[.string k, .string v, .bool b] 52) (w := w) (Below.refl _ _))
  have hnot : ∀ (x : Bool) (w : World), (Op.unary .not (.bool x)).run Try.prog w = .ok (.bool (!x)) w := fun _ _ => rfl
  go_enter Try.func26, Try.ntmps26
  go_wp2_with fail
  refine (editOk_any k v b _).mono ?_
  generalize w.alloc (.cells #[.string k, .string v, .bool b] 52) = U at *
  rintro e w1 ⟨rfl, hb⟩
  have HB1 := hid (HB.out.trans (hb.mono HB.out.size))
  clear hb
  go_wp2
  go_ret
  exact ⟨rfl, HB1.out⟩
set_option maxHeartbeats 2000000 in
theorem idxE_any (S : Nat → Prop) (a : Option Addr) (n c : Nat) (l : List ED) (w : World) (h : Er w S (.slice a n c) l) :
    Calls Try.prog 52 #[.slice a n c, .func (.func 26) #[] #[]] w fun e w' => (∃ x : Int, e = .returned (.int .i64 x) ∧ decide (0 ≤ x) = !(l.all eOk) ∧ -1 ≤ x ∧ x ≤ 9223372036854775807) ∧ Below w.heap.size w w' := by
  have HN := hid (Rw.len h).1
  have bk := (Rw.len h).2
  have H0 := hid h
  clear h
  go_enter Try.func52, Try.ntmps52
  go_wp2_with fail
  go_loopw [8] (fun i v => ∃ k : Nat, k ≤ n ∧ i = .int .i64 k ∧ Hid (Below w.heap.size w v) ∧ Hid ((l.take k).all eOk = true)) (fun i _ => n - (intOf i).toNat)
  case atStart => exact ⟨0, Nat.zero_le _, rfl, Below.refl _ _, rfl⟩
  case round =>
    obtain ⟨m, hm, rfl, HB, HT⟩ := hrel
    by_cases hlt : m < n
    · have hlt' : (m : Int) < (n : Int) := by omega
      have hml : m < l.length := by rw [← HN.out]; exact hlt
      obtain ⟨b, off, ha, -, -, hcell⟩ := (H0.out.below HB.out).at (by omega)
      obtain ⟨hc0, hc1, hc2⟩ := hcell m hlt
      clear hcell
      subst ha
      generalize hcur : eAt l m = cur at hc0 hc1 hc2
      have HC : Hid (l[m]?.getD (⟨#[]⟩, ⟨#[]⟩, false) = cur) := hcur
      clear hcur
      obtain ⟨ck, cv, cb⟩ := cur
      go_wp2_with fail
      refine (batchFn_any ck cv cb _).mono ?_
      rintro e w1 ⟨rfl, hb⟩
      have HB1 := hid (HB.out.trans (hb.mono HB.out.size))
      clear hb HB
      cases h1 : eOk (ck, cv, cb)
      · have HZ : Hid (l.all eOk = false) := all_no _ _ (⟨#[]⟩, ⟨#[]⟩, false) hml (by rw [HC.out]; exact h1)
        go_wp2
        go_ret
        exact ⟨⟨_, rfl, by rw [HZ.out]; simp, by omega, by omega⟩, HB1.out⟩
      · have HT2 : Hid ((l.take (m + 1)).all eOk = true) := by
          show _ = true
          rw [all_take _ _ (⟨#[]⟩, ⟨#[]⟩, false) hml, HT.out, HC.out, h1]; rfl
        go_wp2
        go_roundw
        case rel => exact ⟨m + 1, by omega, by go_num, HB1.out, HT2.out⟩
        case measure => simp [intOf]; omega
    · have HA : Hid (l.all eOk = true) := by
        have := HT.out
        rwa [List.take_of_length_le (by rw [← HN.out]; omega)] at this
      go_wp2
      go_ret
      exact ⟨⟨_, rfl, by rw [HA.out]; decide, by omega, by omega⟩, HB.out⟩
set_option maxHeartbeats 800000 in
theorem hasE_any (S : Nat → Prop) (a : Option Addr) (n c : Nat) (l : List ED) (w : World) (h : Er w S (.slice a n c) l) :
    Calls Try.prog 25 #[.slice a n c, .func (.func 26) #[] #[]] w fun e w' => e = .returned (.bool (!(l.all eOk))) ∧ Below w.heap.size w w' := by
  have H0 := hid h
  clear h
  go_enter Try.func25, Try.ntmps25
  go_wp2_with fail
  refine (idxE_any S a n c l _ H0.out).mono ?_
  rintro e w1 ⟨⟨x, rfl, hx, h0, h1⟩, hb⟩
  have HX := hid hx
  have HB := hid hb
  clear hx hb
  go_wp2
  go_ret
  exact ⟨by rw [← HX.out]; rfl, HB.out⟩
set_option maxHeartbeats 800000 in
theorem implBatchOk_any (S : Nat → Prop) (a : Option Addr) (n c : Nat) (l : List ED) (w : World) (h : Er w S (.slice a n c) l) :
    Calls Try.prog 8 #[.slice a n c] w fun e w' => e = .returned (.bool (bOk l)) ∧ Below w.heap.size w w' := by
  have HN := hid (Rw.len h).1
  have bk := (Rw.len h).2
  have H0 := hid h
  have hnot : ∀ (x : Bool) (w : World), (Op.unary .not (.bool x)).run Try.prog w = .ok (.bool (!x)) w := fun _ _ => rfl
  clear h
  by_cases h40 : n ≤ 40
  · have HE : Hid (bOk l = l.all eOk) := bOk_yes (by rw [← HN.out]; exact h40)
    have h40' : (n : Int) ≤ 40 := by omega
    go_enter Try.func8, Try.ntmps8
    go_wp2_with fail
    refine (hasE_any S a n c l _ H0.out).mono ?_
    rintro e w1 ⟨rfl, hb⟩
    have HB := hid hb
    clear hb
    generalize l.all eOk = z at *
    go_wp2
    go_ret
    exact ⟨by rw [HE.out]; cases z <;> rfl, HB.out⟩
  · have HE : Hid (bOk l = false) := bOk_no (by rw [← HN.out]; exact h40)
    have h40' : ¬ (n : Int) ≤ 40 := by omega
    go_enter Try.func8, Try.ntmps8
    go_wp2
    go_ret
    exact ⟨by rw [HE.out]; rfl, Below.refl _ _⟩
set_option maxHeartbeats 4000000 in
theorem specBatchOk_any (S : Nat → Prop) (a : Option Addr) (n c : Nat) (l : List ED) (w : World) (h : Er w S (.slice a n c) l) :
    Calls Try.prog 6 #[.slice a n c] w fun e w' => e = .returned (.bool (bOk l)) ∧ Below w.heap.size w w' := by
  have HN := hid (Rw.len h).1
  have bk := (Rw.len h).2
  have H0 := hid h
  have hnot : ∀ (x : Bool) (w : World), (Op.unary .not (.bool x)).run Try.prog w = .ok (.bool (!x)) w := fun _ _ => rfl
  clear h
  by_cases h40 : n ≤ 40
  · have HE : Hid (bOk l = l.all eOk) := bOk_yes (by rw [← HN.out]; exact h40)
    have h40' : ¬ (40 : Int) < (n : Int) := by omega
    go_enter Try.func6, Try.ntmps6
    go_wp2_with fail
    go_loopw [10] (fun i v => ∃ k : Nat, k ≤ n ∧ i = .int .i64 k ∧ Hid (Below w.heap.size w v) ∧ Hid ((l.take k).all eOk = true)) (fun i _ => n - (intOf i).toNat)
    case atStart => exact ⟨0, Nat.zero_le _, rfl, Below.refl _ _, rfl⟩
    case round =>
      obtain ⟨m, hm, rfl, HB, HT⟩ := hrel
      by_cases hlt : m < n
      · have hlt' : (m : Int) < (n : Int) := by omega
        have hml : m < l.length := by rw [← HN.out]; exact hlt
        obtain ⟨b, off, ha, -, -, hcell⟩ := (H0.out.below HB.out).at (by omega)
        obtain ⟨hc0, hc1, hc2⟩ := hcell m hlt
        clear hcell
        subst ha
        generalize hcur : eAt l m = cur at hc0 hc1 hc2
        have HC : Hid (l[m]?.getD (⟨#[]⟩, ⟨#[]⟩, false) = cur) := hcur
        clear hcur
        obtain ⟨ck, cv, cb⟩ := cur
        have HB1 : Hid (Below w.heap.size w (wr.alloc (.cells #[.string ck, .string cv, .bool cb] 52))) := HB.out.trans (below_new (Below.refl _ _) |>.mono HB.out.size)
        have HNO : Hid (eOk (ck, cv, cb) = false → l.all eOk = false) := fun h => all_no _ _ (⟨#[]⟩, ⟨#[]⟩, false) hml (by rw [HC.out]; exact h)
        have HYES : Hid (eOk (ck, cv, cb) = true → (l.take (m + 1)).all eOk = true) := fun h => by rw [all_take _ _ (⟨#[]⟩, ⟨#[]⟩, false) hml, HT.out, HC.out, h]; rfl
        clear HC HT HB hml
        cases h1 : kOk ck
        · have HZ := hid (HNO.out (by simp [eOk, h1]))
          have C1 := hid (specKeyOk_is ck _ h1)
          clear h1 HNO HYES
          go_wp2_with fail
          refine (C1.out _).mono ?_
          rintro e w1 ⟨rfl, rfl⟩
          go_wp2
          go_ret
          exact ⟨by rw [HE.out, HZ.out]; rfl, HB1.out⟩
        · have C1 := hid (specKeyOk_is ck _ h1)
          cases h2 : vOk cv
          · have HZ := hid (HNO.out (by simp [eOk, h2]))
            have C2 := hid (specValOk_is cv _ h2)
            clear h1 h2 HNO HYES
            go_wp2_with fail
            refine (C1.out _).mono ?_
            rintro e w1 ⟨rfl, rfl⟩
            go_wp2_with fail
            refine (C2.out _).mono ?_
            rintro e w2 ⟨rfl, rfl⟩
            go_wp2
            go_ret
            exact ⟨by rw [HE.out, HZ.out]; rfl, HB1.out⟩
          · have C2 := hid (specValOk_is cv _ h2)
            cases cb with
            | false =>
              have HZ := hid (HYES.out (by simp [eOk, h1, h2]))
              clear h1 h2 HNO HYES
              go_wp2_with fail
              refine (C1.out _).mono ?_
              rintro e w1 ⟨rfl, rfl⟩
              go_wp2_with fail
              refine (C2.out _).mono ?_
              rintro e w2 ⟨rfl, rfl⟩
              go_wp2
              go_roundw
              case rel => exact ⟨m + 1, by omega, by go_num, HB1.out, HZ.out⟩
              case measure => simp [intOf]; omega
            | true =>
              by_cases h3 : cv = ⟨#[]⟩
              · subst h3
                have HZ := hid (HYES.out (by simp [eOk, h1, h2]))
                clear h1 h2 HNO HYES
                go_wp2_with fail
                refine (C1.out _).mono ?_
                rintro e w1 ⟨rfl, rfl⟩
                go_wp2_with fail
                refine (C2.out _).mono ?_
                rintro e w2 ⟨rfl, rfl⟩
                go_wp2
                go_roundw
                case rel => exact ⟨m + 1, by omega, by go_num, HB1.out, HZ.out⟩
                case measure => simp [intOf]; omega
              · have HZ := hid (HNO.out (by simp [eOk, h3]))
                have t1 : ¬ (cv.toList = []) := fun e => h3 (bytes_empty.1 e)
                have t2 : cv.toList.isEmpty = false := by cases h : cv.toList with | nil => exact absurd h t1 | cons _ _ => rfl
                clear h1 h2 h3 HNO HYES
                go_wp2_with fail
                refine (C1.out _).mono ?_
                rintro e w1 ⟨rfl, rfl⟩
                go_wp2_with fail
                refine (C2.out _).mono ?_
                rintro e w2 ⟨rfl, rfl⟩
                go_wp2
                go_ret
                exact ⟨by rw [HE.out, HZ.out]; rfl, HB1.out⟩
      · have HA : Hid (l.all eOk = true) := by
          have := HT.out
          rwa [List.take_of_length_le (by rw [← HN.out]; omega)] at this
        go_wp2
        go_ret
        exact ⟨by rw [HE.out, HA.out]; rfl, HB.out⟩
  · have HE : Hid (bOk l = false) := bOk_no (by rw [← HN.out]; exact h40)
    have h40' : (40 : Int) < (n : Int) := by omega
    go_enter Try.func6, Try.ntmps6
    go_wp2
    go_ret
    exact ⟨by rw [HE.out]; rfl, Below.refl _ _⟩
end Go.Proofs.Ytkfeefaokghibab

