/-
  PageOk of the program.
-/
import Derived.Test.YtpgogpphobafoaaDoorPgO
import Derived.Test.YtpgogpphobafoaaDoorMtI
namespace Go.Proofs.YtpgogpphobafoaaDoor
open Go.RowKit
set_option maxHeartbeats 800000 in
theorem leafFn_any (s : ByteArray) (w : World) : Calls Tryd.prog 75 #[.string s] w fun e w' => e = .returned (.bool (!vOk s)) ∧ w = w' := by
  have hnot : ∀ (x : Bool) (w : World), (Op.unary .not (.bool x)).run Tryd.prog w = .ok (.bool (!x)) w := fun _ _ => rfl
  go_enter Tryd.func75, Tryd.ntmps75
  go_wp2_with fail
  refine (implValOk_any s _).mono ?_
  rintro e w1 ⟨rfl, rfl⟩
  go_wp2
  go_ret
  exact ⟨rfl, rfl⟩
set_option maxHeartbeats 2000000 in
theorem idxS_any (S : Nat → Prop) (a : Option Addr) (n c : Nat) (ss : List ByteArray) (w : World) (h : Sr w S (.slice a n c) ss) :
    Calls Tryd.prog 84 #[.slice a n c, .func (.func 75) #[] #[]] w fun e w' => (∃ x : Int, e = .returned (.int .i64 x) ∧ decide (0 ≤ x) = !(ss.all vOk) ∧ -1 ≤ x ∧ x ≤ 9223372036854775807) ∧ w = w' := by
  have HN := hid (Rw.len h).1
  have bk := (Rw.len h).2
  have H0 := hid h
  clear h
  go_enter Tryd.func84, Tryd.ntmps84
  go_wp2_with fail
  go_loopw [8] (fun i v => ∃ k : Nat, k ≤ n ∧ i = .int .i64 k ∧ v = w ∧ Hid ((ss.take k).all vOk = true)) (fun i _ => n - (intOf i).toNat)
  case atStart => exact ⟨0, Nat.zero_le _, rfl, rfl, rfl⟩
  case round =>
    obtain ⟨m, hm, rfl, rfl, HT⟩ := hrel
    by_cases hlt : m < n
    · have hlt' : (m : Int) < (n : Int) := by omega
      have hml : m < ss.length := by rw [← HN.out]; exact hlt
      obtain ⟨b, off, ha, -, -, hcell⟩ := H0.out.at (by omega)
      have hcm := hcell m hlt
      clear hcell
      subst ha
      generalize hcur : sAt ss m = cur at hcm
      have HC : Hid (ss[m]?.getD ⟨#[]⟩ = cur) := hcur
      clear hcur
      go_wp2_with fail
      refine (leafFn_any cur _).mono ?_
      rintro e w1 ⟨rfl, rfl⟩
      cases h1 : vOk cur
      · have HZ : Hid (ss.all vOk = false) := all_no _ _ ⟨#[]⟩ hml (by rw [HC.out]; exact h1)
        go_wp2
        go_ret
        exact ⟨⟨_, rfl, by rw [HZ.out]; simp, by omega, by omega⟩, rfl⟩
      · have HT2 : Hid ((ss.take (m + 1)).all vOk = true) := by
          show _ = true
          rw [all_take _ _ ⟨#[]⟩ hml, HT.out, HC.out, h1]; rfl
        go_wp2
        go_roundw
        case rel => exact ⟨m + 1, by omega, by go_num, by trivial, HT2⟩
        case measure => simp [intOf]; omega
    · have HA : Hid (ss.all vOk = true) := by
        have := HT.out
        rwa [List.take_of_length_le (by rw [← HN.out]; omega)] at this
      go_wp2
      go_ret
      exact ⟨⟨_, rfl, by rw [HA.out]; decide, by omega, by omega⟩, rfl⟩
set_option maxHeartbeats 800000 in
theorem hasS_any (S : Nat → Prop) (a : Option Addr) (n c : Nat) (ss : List ByteArray) (w : World) (h : Sr w S (.slice a n c) ss) :
    Calls Tryd.prog 74 #[.slice a n c, .func (.func 75) #[] #[]] w fun e w' => e = .returned (.bool (!(ss.all vOk))) ∧ w = w' := by
  have H0 := hid h
  clear h
  go_enter Tryd.func74, Tryd.ntmps74
  go_wp2_with fail
  refine (idxS_any S a n c ss _ H0.out).mono ?_
  rintro e w1 ⟨⟨x, rfl, hx, h0, h1⟩, rfl⟩
  have HX := hid hx
  clear hx
  go_wp2
  go_ret
  exact ⟨by rw [← HX.out]; rfl, rfl⟩
set_option maxHeartbeats 800000 in
theorem branchFn_any (k : Int) (w : World) : Calls Tryd.prog 78 #[.int .i64 k] w fun e w' => e = .returned (.bool (!kidOk k)) ∧ w = w' := by
  have hnot : ∀ (x : Bool) (w : World), (Op.unary .not (.bool x)).run Tryd.prog w = .ok (.bool (!x)) w := fun _ _ => rfl
  have HK : Hid (kidOk k = decide (2 ≤ k ∧ k < 400)) := by
    show _ = _
    rw [kidOk]
    by_cases h1 : 2 ≤ k <;> by_cases h2 : k < 400 <;> simp [h1, h2]
  go_enter Tryd.func78, Tryd.ntmps78
  go_wp2_with fail
  refine (isPlace_any k _ (kidOk k) HK.out).mono ?_
  rintro e w1 ⟨rfl, rfl⟩
  go_wp2
  go_ret
  exact ⟨rfl, rfl⟩
set_option maxHeartbeats 2000000 in
theorem idxI_any (S : Nat → Prop) (a : Option Addr) (n c : Nat) (ss : List Int) (w : World) (h : Ir w S (.slice a n c) ss) :
    Calls Tryd.prog 85 #[.slice a n c, .func (.func 78) #[] #[]] w fun e w' => (∃ x : Int, e = .returned (.int .i64 x) ∧ decide (0 ≤ x) = !(ss.all kidOk) ∧ -1 ≤ x ∧ x ≤ 9223372036854775807) ∧ w = w' := by
  have HN := hid (Rw.len h).1
  have bk := (Rw.len h).2
  have H0 := hid h
  clear h
  go_enter Tryd.func85, Tryd.ntmps85
  go_wp2_with fail
  go_loopw [8] (fun i v => ∃ k : Nat, k ≤ n ∧ i = .int .i64 k ∧ v = w ∧ Hid ((ss.take k).all kidOk = true)) (fun i _ => n - (intOf i).toNat)
  case atStart => exact ⟨0, Nat.zero_le _, rfl, rfl, rfl⟩
  case round =>
    obtain ⟨m, hm, rfl, rfl, HT⟩ := hrel
    by_cases hlt : m < n
    · have hlt' : (m : Int) < (n : Int) := by omega
      have hml : m < ss.length := by rw [← HN.out]; exact hlt
      obtain ⟨b, off, ha, -, -, hcell⟩ := H0.out.at (by omega)
      have hcm := hcell m hlt
      clear hcell
      subst ha
      generalize hcur : iAt ss m = cur at hcm
      have HC : Hid (ss[m]?.getD 0 = cur) := hcur
      clear hcur
      go_wp2_with fail
      refine (branchFn_any cur _).mono ?_
      rintro e w1 ⟨rfl, rfl⟩
      cases h1 : kidOk cur
      · have HZ : Hid (ss.all kidOk = false) := all_no _ _ 0 hml (by rw [HC.out]; exact h1)
        go_wp2
        go_ret
        exact ⟨⟨_, rfl, by rw [HZ.out]; simp, by omega, by omega⟩, rfl⟩
      · have HT2 : Hid ((ss.take (m + 1)).all kidOk = true) := by
          show _ = true
          rw [all_take _ _ 0 hml, HT.out, HC.out, h1]; rfl
        go_wp2
        go_roundw
        case rel => exact ⟨m + 1, by omega, by go_num, by trivial, HT2⟩
        case measure => simp [intOf]; omega
    · have HA : Hid (ss.all kidOk = true) := by
        have := HT.out
        rwa [List.take_of_length_le (by rw [← HN.out]; omega)] at this
      go_wp2
      go_ret
      exact ⟨⟨_, rfl, by rw [HA.out]; decide, by omega, by omega⟩, rfl⟩
set_option maxHeartbeats 800000 in
theorem hasI_any (S : Nat → Prop) (a : Option Addr) (n c : Nat) (ss : List Int) (w : World) (h : Ir w S (.slice a n c) ss) :
    Calls Tryd.prog 77 #[.slice a n c, .func (.func 78) #[] #[]] w fun e w' => e = .returned (.bool (!(ss.all kidOk))) ∧ w = w' := by
  have H0 := hid h
  clear h
  go_enter Tryd.func77, Tryd.ntmps77
  go_wp2_with fail
  refine (idxI_any S a n c ss _ H0.out).mono ?_
  rintro e w1 ⟨⟨x, rfl, hx, h0, h1⟩, rfl⟩
  have HX := hid hx
  clear hx
  go_wp2
  go_ret
  exact ⟨by rw [← HX.out]; rfl, rfl⟩
def lfOk (p : PG) : Bool := decide (1 ≤ p.keys.length ∧ p.keys.length ≤ 4 ∧ p.vals.length = p.keys.length) && (sOkF p.keys p.keys.length 0 && p.vals.all vOk)
def bchOk (p : PG) : Bool := decide (2 ≤ p.kids.length ∧ p.kids.length ≤ 4 ∧ p.keys.length + 1 = p.kids.length ∧ p.vals.length = 0) && (sOkF p.keys p.keys.length 0 && p.kids.all kidOk)
theorem pgOk_lf {p : PG} (h : p.kids.length = 0) : pgOk p = lfOk p := by
  rw [pgOk, if_pos h, pgLeaf, lfOk]
  generalize sOkF p.keys p.keys.length 0 = x
  generalize p.vals.all vOk = y
  by_cases h1 : 1 ≤ p.keys.length <;> by_cases h2 : p.keys.length ≤ 4 <;> by_cases h3 : p.vals.length = p.keys.length <;> simp [h1, h2, h3]
theorem pgOk_br {p : PG} (h : ¬ p.kids.length = 0) : pgOk p = bchOk p := by
  rw [pgOk, if_neg h, pgBranch, bchOk]
  generalize sOkF p.keys p.keys.length 0 = x
  generalize p.kids.all kidOk = y
  by_cases h1 : 2 ≤ p.kids.length <;> by_cases h2 : p.kids.length ≤ 4 <;> by_cases h3 : p.keys.length + 1 = p.kids.length <;> by_cases h4 : p.vals.length = 0 <;> simp [h1, h2, h3, h4]
theorem lfOk_no {p : PG} (h : ¬ (1 ≤ p.keys.length ∧ p.keys.length ≤ 4 ∧ p.vals.length = p.keys.length)) : lfOk p = false := by rw [lfOk, decide_eq_false h]; rfl
theorem lfOk_yes {p : PG} (h : 1 ≤ p.keys.length ∧ p.keys.length ≤ 4 ∧ p.vals.length = p.keys.length) : lfOk p = (sOkF p.keys p.keys.length 0 && p.vals.all vOk) := by rw [lfOk, decide_eq_true h]; rfl
theorem bchOk_no {p : PG} (h : ¬ (2 ≤ p.kids.length ∧ p.kids.length ≤ 4 ∧ p.keys.length + 1 = p.kids.length ∧ p.vals.length = 0)) : bchOk p = false := by rw [bchOk, decide_eq_false h]; rfl
theorem bchOk_yes {p : PG} (h : 2 ≤ p.kids.length ∧ p.kids.length ≤ 4 ∧ p.keys.length + 1 = p.kids.length ∧ p.vals.length = 0) : bchOk p = (sOkF p.keys p.keys.length 0 && p.kids.all kidOk) := by rw [bchOk, decide_eq_true h]; rfl
theorem Sr.rise {w : World} {S : Nat → Prop} {a : Option Addr} {n c : Nat} {ss : List ByteArray} (h : Sr w S (.slice a n c) ss) (hp : 0 < n) : ∃ b off, a = some ⟨b, off, none⟩ ∧ ∀ i, i < n → w.cell? ⟨b, off + i, none⟩ = some (.string (ss[i]?.getD ⟨#[]⟩)) := by
  obtain ⟨b, off, ha, -, -, hc⟩ := h.at hp
  exact ⟨b, off, ha, hc⟩
set_option maxHeartbeats 4000000 in
theorem leafOk_any (S : Nat → Prop) (ka : Option Addr) (kn kc : Nat) (va : Option Addr) (vn vc : Nat) (ia : Option Addr) (jn ic : Nat) (p : PG) (w : World) (h : Pgr w S ka kn kc va vn vc ia jn ic p) :
    Calls Tryd.prog 62 #[.agg #[.slice ka kn kc, .slice va vn vc, .slice ia jn ic]] w fun e w' => e = .returned (.bool (lfOk p)) ∧ Below w.heap.size w w' := by
  have hb0 := below_new (o := .cells #[.slice ka kn kc, .slice va vn vc, .slice ia jn ic] 30) (w := w) (Below.refl _ _)
  have P0 := hid (h.below hb0)
  have HB := hid hb0
  have HNK := hid (Rw.len h.hk).1
  have HNV := hid (Rw.len h.hv).1
  have bk := (Rw.len h.hk).2
  have bv := (Rw.len h.hv).2
  have HNO : Hid (¬ (1 ≤ kn ∧ kn ≤ 4 ∧ vn = kn) → lfOk p = false) := fun h => lfOk_no (by rw [← HNK.out, ← HNV.out]; exact h)
  have HYES : Hid ((1 ≤ kn ∧ kn ≤ 4 ∧ vn = kn) → lfOk p = (sOkF p.keys kn 0 && p.vals.all vOk)) := fun h => by rw [lfOk_yes (by rw [← HNK.out, ← HNV.out]; exact h), ← HNK.out]
  clear h hb0
  by_cases q1 : kn = 0
  · have HF := hid (HNO.out (by omega))
    subst q1
    clear HNO HYES
    go_enter Tryd.func62, Tryd.ntmps62
    go_wp2
    go_ret
    exact ⟨by rw [HF.out]; rfl, HB.out⟩
  · have q1' : ((kn : Int) == 0) = false := by simp; omega
    have q1'' : ¬ (kn : Int) = 0 := by omega
    by_cases q2 : 4 < kn
    · have HF := hid (HNO.out (by omega))
      have q2' : (4 : Int) < (kn : Int) := by omega
      clear HNO HYES
      go_enter Tryd.func62, Tryd.ntmps62
      go_wp2
      go_ret
      exact ⟨by rw [HF.out]; rfl, HB.out⟩
    · have q2' : ¬ (4 : Int) < (kn : Int) := by omega
      by_cases q3 : vn = kn
      · subst q3
        have HF := hid (HYES.out ⟨by omega, by omega, rfl⟩)
        have q3' : ((vn : Int) != (vn : Int)) = false := by simp
        clear HNO HYES
        go_enter Tryd.func62, Tryd.ntmps62
        go_wp2_with fail
        refine (implKeysRise_any ka vn kc p.keys _ HNK.out (by omega) (by omega) (fun hp => P0.out.hk.rise hp)).mono ?_
        rintro e w1 ⟨rfl, rfl⟩
        obtain ⟨Z, hZ⟩ : ∃ Z, sOkF p.keys vn 0 = Z := ⟨_, rfl⟩
        rw [hZ]
        have HZ := hid hZ
        clear hZ
        cases Z
        · go_wp2
          go_ret
          exact ⟨by rw [HF.out, HZ.out]; rfl, HB.out⟩
        · go_wp2_with fail
          refine (hasS_any S va vn vc p.vals _ P0.out.hv).mono ?_
          rintro e w1 ⟨rfl, rfl⟩
          obtain ⟨Y, hY⟩ : ∃ Y, p.vals.all vOk = Y := ⟨_, rfl⟩
          rw [hY]
          have HY := hid hY
          clear hY
          cases Y
          · go_wp2
            go_ret
            exact ⟨by rw [HF.out, HZ.out, HY.out]; rfl, HB.out⟩
          · go_wp2
            go_ret
            exact ⟨by rw [HF.out, HZ.out, HY.out]; rfl, HB.out⟩
      · have HF := hid (HNO.out (by omega))
        have q3' : ((vn : Int) != (kn : Int)) = true := by simp; omega
        clear HNO HYES
        go_enter Tryd.func62, Tryd.ntmps62
        go_wp2
        go_ret
        exact ⟨by rw [HF.out]; rfl, HB.out⟩
set_option maxHeartbeats 4000000 in
theorem branchOk_any (S : Nat → Prop) (ka : Option Addr) (kn kc : Nat) (va : Option Addr) (vn vc : Nat) (ia : Option Addr) (jn ic : Nat) (p : PG) (w : World) (h : Pgr w S ka kn kc va vn vc ia jn ic p) :
    Calls Tryd.prog 63 #[.agg #[.slice ka kn kc, .slice va vn vc, .slice ia jn ic]] w fun e w' => e = .returned (.bool (bchOk p)) ∧ Below w.heap.size w w' := by
  have hb0 := below_new (o := .cells #[.slice ka kn kc, .slice va vn vc, .slice ia jn ic] 30) (w := w) (Below.refl _ _)
  have P0 := hid (h.below hb0)
  have HB := hid hb0
  have HNK := hid (Rw.len h.hk).1
  have HNV := hid (Rw.len h.hv).1
  have HNI := hid (Rw.len h.hi).1
  have bk := (Rw.len h.hk).2
  have bv := (Rw.len h.hv).2
  have bi := (Rw.len h.hi).2
  have HNO : Hid (¬ (2 ≤ jn ∧ jn ≤ 4 ∧ kn + 1 = jn ∧ vn = 0) → bchOk p = false) := fun h => bchOk_no (by rw [← HNK.out, ← HNV.out, ← HNI.out]; exact h)
  have HYES : Hid ((2 ≤ jn ∧ jn ≤ 4 ∧ kn + 1 = jn ∧ vn = 0) → bchOk p = (sOkF p.keys kn 0 && p.kids.all kidOk)) := fun h => by rw [bchOk_yes (by rw [← HNK.out, ← HNV.out, ← HNI.out]; exact h), ← HNK.out]
  clear h hb0
  by_cases q1 : jn < 2
  · have HF := hid (HNO.out (by omega))
    have q1' : (jn : Int) < 2 := by omega
    clear HNO HYES
    go_enter Tryd.func63, Tryd.ntmps63
    go_wp2
    go_ret
    exact ⟨by rw [HF.out]; rfl, HB.out⟩
  · have q1' : ¬ (jn : Int) < 2 := by omega
    by_cases q2 : 4 < jn
    · have HF := hid (HNO.out (by omega))
      have q2' : (4 : Int) < (jn : Int) := by omega
      clear HNO HYES
      go_enter Tryd.func63, Tryd.ntmps63
      go_wp2
      go_ret
      exact ⟨by rw [HF.out]; rfl, HB.out⟩
    · have q2' : ¬ (4 : Int) < (jn : Int) := by omega
      by_cases q3 : kn + 1 = jn
      · have q3' : ((kn : Int) != (jn : Int) - 1) = false := by simp; omega
        by_cases q4 : vn = 0
        · have HF := hid (HYES.out ⟨by omega, by omega, q3, q4⟩)
          subst q4
          clear HNO HYES
          go_enter Tryd.func63, Tryd.ntmps63
          go_wp2_with fail
          refine (implKeysRise_any ka kn kc p.keys _ HNK.out (by omega) (by omega) (fun hp => P0.out.hk.rise hp)).mono ?_
          rintro e w1 ⟨rfl, rfl⟩
          obtain ⟨Z, hZ⟩ : ∃ Z, sOkF p.keys kn 0 = Z := ⟨_, rfl⟩
          rw [hZ]
          have HZ := hid hZ
          clear hZ
          cases Z
          · go_wp2
            go_ret
            exact ⟨by rw [HF.out, HZ.out]; rfl, HB.out⟩
          · go_wp2_with fail
            refine (hasI_any S ia jn ic p.kids _ P0.out.hi).mono ?_
            rintro e w1 ⟨rfl, rfl⟩
            obtain ⟨Y, hY⟩ : ∃ Y, p.kids.all kidOk = Y := ⟨_, rfl⟩
            rw [hY]
            have HY := hid hY
            clear hY
            cases Y
            · go_wp2
              go_ret
              exact ⟨by rw [HF.out, HZ.out, HY.out]; rfl, HB.out⟩
            · go_wp2
              go_ret
              exact ⟨by rw [HF.out, HZ.out, HY.out]; rfl, HB.out⟩
        · have HF := hid (HNO.out (by omega))
          have q4' : ((vn : Int) != 0) = true := by simp; omega
          clear HNO HYES
          go_enter Tryd.func63, Tryd.ntmps63
          go_wp2
          go_ret
          exact ⟨by rw [HF.out]; rfl, HB.out⟩
      · have HF := hid (HNO.out (by omega))
        have q3' : ((kn : Int) != (jn : Int) - 1) = true := by simp; omega
        clear HNO HYES
        go_enter Tryd.func63, Tryd.ntmps63
        go_wp2
        go_ret
        exact ⟨by rw [HF.out]; rfl, HB.out⟩
set_option maxHeartbeats 2000000 in
theorem implPageOk_any (S : Nat → Prop) (ka : Option Addr) (kn kc : Nat) (va : Option Addr) (vn vc : Nat) (ia : Option Addr) (jn ic : Nat) (p : PG) (w : World) (h : Pgr w S ka kn kc va vn vc ia jn ic p) :
    Calls Tryd.prog 34 #[.agg #[.slice ka kn kc, .slice va vn vc, .slice ia jn ic]] w fun e w' => e = .returned (.bool (pgOk p)) ∧ Below w.heap.size w w' := by
  have hb0 := below_new (o := .cells #[.slice ka kn kc, .slice va vn vc, .slice ia jn ic] 30) (w := w) (Below.refl _ _)
  have P0 := hid (h.below hb0)
  have HB := hid hb0
  have HNI := hid (Rw.len h.hi).1
  have bi := (Rw.len h.hi).2
  clear h hb0
  by_cases q1 : jn = 0
  · have HE := hid (pgOk_lf (p := p) (by rw [← HNI.out]; exact q1))
    subst q1
    go_enter Tryd.func34, Tryd.ntmps34
    go_wp2_with fail
    refine (leafOk_any S ka kn kc va vn vc ia 0 ic p _ P0.out).mono ?_
    rintro e w1 ⟨rfl, hb1⟩
    have HB1 := hid (btw HB.out hb1)
    clear hb1
    go_wp2
    go_ret
    exact ⟨by rw [HE.out]; rfl, HB1.out⟩
  · have HE := hid (pgOk_br (p := p) (by rw [← HNI.out]; exact q1))
    have q1' : ((jn : Int) == 0) = false := by simp; omega
    have q1'' : ¬ (jn : Int) = 0 := by omega
    go_enter Tryd.func34, Tryd.ntmps34
    go_wp2_with fail
    refine (branchOk_any S ka kn kc va vn vc ia jn ic p _ P0.out).mono ?_
    rintro e w1 ⟨rfl, hb1⟩
    have HB1 := hid (btw HB.out hb1)
    clear hb1
    go_wp2
    go_ret
    exact ⟨by rw [HE.out]; rfl, HB1.out⟩
end Go.Proofs.YtpgogpphobafoaaDoor

