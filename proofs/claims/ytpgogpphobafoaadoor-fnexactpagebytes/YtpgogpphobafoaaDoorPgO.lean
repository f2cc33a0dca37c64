/-
  Pages as plain data; PageOk of the specification.
-/
import Derived.Test.YtpgogpphobafoaaDoorNd
import Derived.Test.YtpgogpphobafoaaDoorStrs
namespace Go.Proofs.YtpgogpphobafoaaDoor
open Go.RowKit
/-- A page: its keys, values and kids. -/
structure PG where
  keys : List ByteArray
  vals : List ByteArray
  kids : List Int
def kidOk (k : Int) : Bool := decide (2 ≤ k) && decide (k < 400)
def pgLeaf (p : PG) : Bool := p.vals.all vOk && (decide (1 ≤ p.keys.length) && decide (p.keys.length ≤ 4) && decide (p.vals.length = p.keys.length))
def pgBranch (p : PG) : Bool := p.kids.all kidOk && (decide (2 ≤ p.kids.length) && decide (p.kids.length ≤ 4) && decide (p.keys.length + 1 = p.kids.length) && decide (p.vals.length = 0))
def pgOk (p : PG) : Bool := sOkF p.keys p.keys.length 0 && (if p.kids.length = 0 then pgLeaf p else pgBranch p)
theorem pgOk_leaf {p : PG} (h : sOkF p.keys p.keys.length 0 = true) (h0 : p.kids.length = 0) : pgOk p = pgLeaf p := by rw [pgOk, h, if_pos h0]; rfl
theorem pgOk_branch {p : PG} (h : sOkF p.keys p.keys.length 0 = true) (h0 : ¬ p.kids.length = 0) : pgOk p = pgBranch p := by rw [pgOk, h, if_neg h0]; rfl
theorem pgOk_no {p : PG} (h : sOkF p.keys p.keys.length 0 = false) : pgOk p = false := by rw [pgOk, h]; rfl
theorem all_take {α : Type} (l : List α) (f : α → Bool) (d : α) {k : Nat} (h : k < l.length) : (l.take (k + 1)).all f = ((l.take k).all f && f (l[k]?.getD d)) := by
  rw [List.take_succ_eq_append_getElem h, List.all_append]
  simp [h]
theorem all_no {α : Type} (l : List α) (f : α → Bool) (d : α) {k : Nat} (h : k < l.length) (hf : f (l[k]?.getD d) = false) : l.all f = false := by
  rw [List.all_eq_false]
  refine ⟨l[k], List.getElem_mem h, ?_⟩
  simp [h] at hf
  simp [hf]
theorem pgLeaf_no {p : PG} (h : p.vals.all vOk = false) : pgLeaf p = false := by rw [pgLeaf, h]; rfl
theorem pgBranch_no {p : PG} (h : p.kids.all kidOk = false) : pgBranch p = false := by rw [pgBranch, h]; rfl
/-- The slices lead to the page. -/
structure Pgr (w : World) (S : Nat → Prop) (ka : Option Addr) (kn kc : Nat) (va : Option Addr) (vn vc : Nat) (ia : Option Addr) (jn ic : Nat) (p : PG) : Prop where
  hk : Sr w S (.slice ka kn kc) p.keys
  hv : Sr w S (.slice va vn vc) p.vals
  hi : Ir w S (.slice ia jn ic) p.kids
theorem Pgr.below {w w' : World} {S : Nat → Prop} {ka : Option Addr} {kn kc : Nat} {va : Option Addr} {vn vc : Nat} {ia : Option Addr} {jn ic : Nat} {p : PG} (h : Pgr w S ka kn kc va vn vc ia jn ic p) (hb : Below w.heap.size w w') : Pgr w' S ka kn kc va vn vc ia jn ic p := ⟨h.hk.below hb, h.hv.below hb, h.hi.below hb⟩
theorem Pgr.to {w w' : World} {S R : Nat → Prop} {ka : Option Addr} {kn kc : Nat} {va : Option Addr} {vn vc : Nat} {ia : Option Addr} {jn ic : Nat} {p : PG} (h : Pgr w S ka kn kc va vn vc ia jn ic p) (ho : Only R w w') (hd : ∀ b, S b → b < w.heap.size → ¬ R b) : Pgr w' S ka kn kc va vn vc ia jn ic p := ⟨h.hk.to ho hd, h.hv.to ho hd, h.hi.to ho hd⟩
set_option maxHeartbeats 8000000 in
set_option maxRecDepth 20000 in
theorem specPageOk_any (S : Nat → Prop) (ka : Option Addr) (kn kc : Nat) (va : Option Addr) (vn vc : Nat) (ia : Option Addr) (jn ic : Nat) (p : PG) (w : World) (h : Pgr w S ka kn kc va vn vc ia jn ic p) :
    Calls Tryd.prog 28 #[.agg #[.slice ka kn kc, .slice va vn vc, .slice ia jn ic]] w fun e w' => e = .returned (.bool (pgOk p)) ∧ Below w.heap.size w w' := by
  have hb0 := below_new (o := .cells #[.slice ka kn kc, .slice va vn vc, .slice ia jn ic] 30) (w := w) (Below.refl _ _)
  have P0 := hid (h.below hb0)
  have HB := hid hb0
  have K0 := Bk.new w 30 [.slice ka kn kc, .slice va vn vc, .slice ia jn ic]
  have c0 := K0.cell (j := 0) rfl
  have c1 := K0.cell (j := 1) rfl
  have c2 := K0.cell (j := 2) rfl
  have HNK := hid (Rw.len h.hk).1
  have HNV := hid (Rw.len h.hv).1
  have HNI := hid (Rw.len h.hi).1
  have bk := (Rw.len h.hk).2
  have bv := (Rw.len h.hv).2
  have bi := (Rw.len h.hi).2
  clear h hb0 K0
  go_enter Tryd.func28, Tryd.ntmps28
  go_wp2_with fail
  generalize w.alloc (.cells #[.slice ka kn kc, .slice va vn vc, .slice ia jn ic] 30) = U at *
  generalize hx : w.heap.size = x at c0 c1 c2 ⊢
  clear hx
  go_loopw [12] (fun i wr => ∃ k : Nat, k ≤ kn ∧ i = .int .i64 k ∧ wr = U ∧ Hid (sOkF p.keys (kn - k) k = sOkF p.keys kn 0)) (fun i _ => kn - (intOf i).toNat)
  case atStart => exact ⟨0, Nat.zero_le _, rfl, rfl, rfl⟩
  case round =>
    obtain ⟨k, hk, rfl, rfl, HS⟩ := hrel
    by_cases hlt : k < kn
    · have hlt' : (k : Int) < (kn : Int) := by omega
      obtain ⟨b, off, ha, -, -, hcell⟩ := P0.out.hk.at (by omega)
      have hck := hcell k hlt
      have e1 : kn - k = (kn - (k + 1)) + 1 := by omega
      have HE1 := hid e1
      clear e1
      subst ha
      rw [HE1.out] at HS
      have HNO : Hid (sOkF p.keys kn 0 = false → pgOk p = false) := fun e => pgOk_no (by rw [← HNK.out]; exact e)
      cases k with
      | zero =>
        clear hcell
        rw [Nat.add_zero] at hck
        generalize hcur : sAt p.keys 0 = cur at hck
        have HC : Hid (p.keys[0]?.getD ⟨#[]⟩ = cur) := hcur
        clear hcur
        go_wp2_with fail
        refine (specKeyOk_any cur _).mono ?_
        rintro e w1 ⟨rfl, rfl⟩
        cases h1 : kOk cur
        · have HZ : Hid (pgOk p = false) := HNO.out (by rw [← HS.out]; exact sOkF_no p.keys _ _ (by rw [HC.out]; exact h1))
          go_wp2
          go_ret
          exact ⟨by rw [HZ.out]; rfl, HB.out⟩
        · have HZ : Hid (sOkF p.keys (kn - 1) 1 = sOkF p.keys kn 0) := by
            show sOkF p.keys (kn - 1) 1 = sOkF p.keys kn 0
            rw [← HS.out]; exact (sOkF_0 p.keys _ (by rw [HC.out]; exact h1)).symm
          go_wp2
          go_roundw
          case rel => exact ⟨1, by omega, by go_num, by trivial, HZ⟩
          case measure => simp [intOf]; omega
      | succ j =>
        have hcj := hcell j (by omega)
        have hj1 : (0 : Int) < (j : Int) + 1 := by omega
        clear hcell
        generalize hcur : sAt p.keys (j + 1) = cur at hck
        generalize hprev : sAt p.keys j = prev at hcj
        have HC : Hid (p.keys[j + 1]?.getD ⟨#[]⟩ = cur) := hcur
        have HP : Hid (p.keys[j]?.getD ⟨#[]⟩ = prev) := hprev
        clear hcur hprev
        go_wp2_with fail
        refine (specKeyOk_any cur _).mono ?_
        rintro e w1 ⟨rfl, rfl⟩
        cases h1 : kOk cur
        · have HZ : Hid (pgOk p = false) := HNO.out (by rw [← HS.out]; exact sOkF_no p.keys _ _ (by rw [HC.out]; exact h1))
          go_wp2
          go_ret
          exact ⟨by rw [HZ.out]; rfl, HB.out⟩
        · have HG : Hid (∀ b, Op.bytesLess prev.toList cur.toList = b → (b && sOkF p.keys (kn - (j + 1 + 1)) (j + 1 + 1)) = sOkF p.keys kn 0) := by
            intro b hb
            rw [← HS.out]
            exact (sOkF_s p.keys _ j (by rw [HC.out]; exact h1) b (by rw [HP.out, HC.out]; exact hb)).symm
          rcases tri prev cur with ⟨t1, t2, t3, t4⟩ | rfl | ⟨t1, t2, t3, t4⟩
          · have HZ : Hid (sOkF p.keys (kn - (j + 1 + 1)) (j + 1 + 1) = sOkF p.keys kn 0) := by show sOkF p.keys (kn - (j + 1 + 1)) (j + 1 + 1) = sOkF p.keys kn 0; have := HG.out _ t1; simpa using this
            go_wp2
            go_roundw
            case rel => exact ⟨j + 1 + 1, by omega, by go_num, by trivial, HZ⟩
            case measure => simp [intOf]; omega
          · have t1 := less_irrefl prev.toList
            have HZ : Hid (pgOk p = false) := HNO.out (by have := HG.out _ t1; simpa using this.symm)
            go_wp2
            go_ret
            exact ⟨by rw [HZ.out]; rfl, HB.out⟩
          · have HZ : Hid (pgOk p = false) := HNO.out (by have := HG.out _ t1; simpa using this.symm)
            go_wp2
            go_ret
            exact ⟨by rw [HZ.out]; rfl, HB.out⟩
    · have hk' : k = kn := by omega
      have HZ : Hid (sOkF p.keys p.keys.length 0 = true) := by show sOkF p.keys p.keys.length 0 = true; rw [← HNK.out, ← HS.out, hk', Nat.sub_self]; rfl
      clear hk' HS
      by_cases hi0 : jn = 0
      · subst hi0
        have HR : Hid (pgOk p = pgLeaf p) := pgOk_leaf HZ.out HNI.out.symm
        go_wp2_with fail
        go_loopw [42] (fun i v => ∃ k : Nat, k ≤ vn ∧ i = .int .i64 k ∧ v = wr ∧ Hid ((p.vals.take k).all vOk = true)) (fun i _ => vn - (intOf i).toNat)
        case atStart => exact ⟨0, Nat.zero_le _, rfl, rfl, rfl⟩
        case round =>
          obtain ⟨m, hm, rfl, rfl, HT⟩ := hrel
          by_cases hlt2 : m < vn
          · have hlt2' : (m : Int) < (vn : Int) := by omega
            have hml : m < p.vals.length := by rw [← HNV.out]; exact hlt2
            obtain ⟨b, off, ha, -, -, hcell⟩ := P0.out.hv.at (by omega)
            have hcm := hcell m hlt2
            clear hcell
            subst ha
            generalize hcur : sAt p.vals m = cur at hcm
            have HC : Hid (p.vals[m]?.getD ⟨#[]⟩ = cur) := hcur
            clear hcur
            go_wp2_with fail
            refine (specValOk_any cur _).mono ?_
            rintro e w1 ⟨rfl, rfl⟩
            cases h1 : vOk cur
            · have HZ2 : Hid (pgOk p = false) := by
                show pgOk p = false
                rw [HR.out]; exact pgLeaf_no (all_no _ _ ⟨#[]⟩ hml (by rw [HC.out]; exact h1))
              go_wp2
              go_ret
              exact ⟨by rw [HZ2.out]; rfl, HB.out⟩
            · have HT2 : Hid ((p.vals.take (m + 1)).all vOk = true) := by
                show _ = true
                rw [all_take _ _ ⟨#[]⟩ hml, HT.out, HC.out, h1]; rfl
              go_wp2
              go_roundw
              case rel => exact ⟨m + 1, by omega, by go_num, by trivial, HT2⟩
              case measure => simp [intOf]; omega
          · have HA : Hid (p.vals.all vOk = true) := by
              have := HT.out
              rwa [List.take_of_length_le (by rw [← HNV.out]; omega)] at this
            have HR2 : Hid (pgOk p = (decide (1 ≤ kn) && decide (kn ≤ 4) && decide (vn = kn))) := by
              show pgOk p = _
              rw [HR.out, pgLeaf, HA.out, HNK.out, HNV.out]; rfl
            clear HT HA HR
            by_cases q1 : 1 ≤ kn
            · by_cases q2 : kn ≤ 4
              · by_cases q3 : vn = kn
                · have HF : Hid (pgOk p = true) := by show _ = true; rw [HR2.out, decide_eq_true q1, decide_eq_true q2, decide_eq_true q3]; rfl
                  subst q3
                  have q1' : (1 : Int) ≤ (vn : Int) := by omega
                  have q2' : (vn : Int) ≤ 4 := by omega
                  clear HR2
                  go_wp2
                  go_ret
                  exact ⟨by rw [HF.out]; rfl, HB.out⟩
                · have HF : Hid (pgOk p = false) := by show _ = false; rw [HR2.out, decide_eq_false q3]; simp
                  have q1' : (1 : Int) ≤ (kn : Int) := by omega
                  have q2' : (kn : Int) ≤ 4 := by omega
                  have q3' : ((vn : Int) == (kn : Int)) = false := by simp; omega
                  have q4' : ¬ (vn : Int) = (kn : Int) := by omega
                  clear HR2
                  go_wp2
                  go_ret
                  exact ⟨by rw [HF.out]; rfl, HB.out⟩
              · have HF : Hid (pgOk p = false) := by show _ = false; rw [HR2.out, decide_eq_false q2]; simp
                have q1' : (1 : Int) ≤ (kn : Int) := by omega
                have q2' : ¬ (kn : Int) ≤ 4 := by omega
                clear HR2
                go_wp2
                go_ret
                exact ⟨by rw [HF.out]; rfl, HB.out⟩
            · have HF : Hid (pgOk p = false) := by show _ = false; rw [HR2.out, decide_eq_false q1]; simp
              have q1' : ¬ (1 : Int) ≤ (kn : Int) := by omega
              clear HR2
              go_wp2
              go_ret
              exact ⟨by rw [HF.out]; rfl, HB.out⟩
      · have hi0' : ¬ (jn : Int) = 0 := by omega
        have HR : Hid (pgOk p = pgBranch p) := pgOk_branch HZ.out (by rw [← HNI.out]; exact hi0)
        go_wp2_with fail
        go_loopw [72] (fun i v => ∃ k : Nat, k ≤ jn ∧ i = .int .i64 k ∧ v = wr ∧ Hid ((p.kids.take k).all kidOk = true)) (fun i _ => jn - (intOf i).toNat)
        case atStart => exact ⟨0, Nat.zero_le _, rfl, rfl, rfl⟩
        case round =>
          obtain ⟨m, hm, rfl, rfl, HT⟩ := hrel
          by_cases hlt2 : m < jn
          · have hlt2' : (m : Int) < (jn : Int) := by omega
            have hml : m < p.kids.length := by rw [← HNI.out]; exact hlt2
            obtain ⟨b, off, ha, -, -, hcell⟩ := P0.out.hi.at (by omega)
            have hcm := hcell m hlt2
            clear hcell
            subst ha
            generalize hcur : iAt p.kids m = cur at hcm
            have HC : Hid (p.kids[m]?.getD 0 = cur) := hcur
            clear hcur
            by_cases g1 : cur < 2
            · have HZ2 : Hid (pgOk p = false) := by
                show pgOk p = false
                rw [HR.out]; exact pgBranch_no (all_no _ _ 0 hml (by rw [HC.out, kidOk, decide_eq_false (by omega)]; rfl))
              go_wp2
              go_ret
              exact ⟨by rw [HZ2.out]; rfl, HB.out⟩
            · by_cases g2 : 400 ≤ cur
              · have HZ2 : Hid (pgOk p = false) := by
                  show pgOk p = false
                  rw [HR.out]; exact pgBranch_no (all_no _ _ 0 hml (by rw [HC.out, kidOk, decide_eq_false (show ¬ cur < 400 by omega)]; simp))
                go_wp2
                go_ret
                exact ⟨by rw [HZ2.out]; rfl, HB.out⟩
              · have HT2 : Hid ((p.kids.take (m + 1)).all kidOk = true) := by
                  show _ = true
                  rw [all_take _ _ 0 hml, HT.out, HC.out, kidOk, decide_eq_true (by omega), decide_eq_true (by omega)]; rfl
                go_wp2
                go_roundw
                case rel => exact ⟨m + 1, by omega, by go_num, by trivial, HT2⟩
                case measure => simp [intOf]; omega
          · have HA : Hid (p.kids.all kidOk = true) := by
              have := HT.out
              rwa [List.take_of_length_le (by rw [← HNI.out]; omega)] at this
            have HR2 : Hid (pgOk p = (decide (2 ≤ jn) && decide (jn ≤ 4) && decide (kn + 1 = jn) && decide (vn = 0))) := by
              show pgOk p = _
              rw [HR.out, pgBranch, HA.out, HNK.out, HNV.out, HNI.out]; rfl
            clear HT HA HR
            by_cases q1 : 2 ≤ jn
            · by_cases q2 : jn ≤ 4
              · by_cases q3 : kn + 1 = jn
                · by_cases q4 : vn = 0
                  · have HF : Hid (pgOk p = true) := by show _ = true; rw [HR2.out, decide_eq_true q1, decide_eq_true q2, decide_eq_true q3, decide_eq_true q4]; rfl
                    subst q4
                    have q1' : (2 : Int) ≤ (jn : Int) := by omega
                    have q2' : (jn : Int) ≤ 4 := by omega
                    have q3' : (jn : Int) - 1 = (kn : Int) := by omega
                    clear HR2
                    go_wp2
                    go_ret
                    exact ⟨by rw [HF.out]; rfl, HB.out⟩
                  · have HF : Hid (pgOk p = false) := by show _ = false; rw [HR2.out, decide_eq_false q4]; simp
                    have q1' : (2 : Int) ≤ (jn : Int) := by omega
                    have q2' : (jn : Int) ≤ 4 := by omega
                    have q3' : (jn : Int) - 1 = (kn : Int) := by omega
                    have q4' : ¬ (vn : Int) = 0 := by omega
                    have q5' : ((vn : Int) == 0) = false := by simp; omega
                    have q6' : (vn == 0) = false := by simp; omega
                    clear HR2
                    go_wp2
                    go_ret
                    exact ⟨by rw [HF.out]; rfl, HB.out⟩
                · have HF : Hid (pgOk p = false) := by show _ = false; rw [HR2.out, decide_eq_false q3]; simp
                  have q1' : (2 : Int) ≤ (jn : Int) := by omega
                  have q2' : (jn : Int) ≤ 4 := by omega
                  have q3' : ¬ (kn : Int) = (jn : Int) - 1 := by omega
                  have q4' : ((kn : Int) == (jn : Int) - 1) = false := by simp; omega
                  clear HR2
                  go_wp2
                  go_ret
                  exact ⟨by rw [HF.out]; rfl, HB.out⟩
              · have HF : Hid (pgOk p = false) := by show _ = false; rw [HR2.out, decide_eq_false q2]; simp
                have q1' : (2 : Int) ≤ (jn : Int) := by omega
                have q2' : ¬ (jn : Int) ≤ 4 := by omega
                clear HR2
                go_wp2
                go_ret
                exact ⟨by rw [HF.out]; rfl, HB.out⟩
            · have HF : Hid (pgOk p = false) := by show _ = false; rw [HR2.out, decide_eq_false q1]; simp
              have q1' : ¬ (2 : Int) ≤ (jn : Int) := by omega
              clear HR2
              go_wp2
              go_ret
              exact ⟨by rw [HF.out]; rfl, HB.out⟩
end Go.Proofs.YtpgogpphobafoaaDoor

