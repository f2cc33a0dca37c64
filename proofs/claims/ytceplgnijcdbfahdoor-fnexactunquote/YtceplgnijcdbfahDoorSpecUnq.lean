/-
  What the model's Unquote answers, for every string.
-/
import Derived.Test.YtceplgnijcdbfahDoorUnqPlain
import Derived.Deep.RegionLaw
namespace Go.Proofs.YtceplgnijcdbfahDoor
open Go.RowKit

/-- append as one step of a region that draws. -/
theorem step_append_rd {w : World} {ops : Array Oper} {o : Oper} {a : Act} {K : Act → World → Prop} {Q : Exit → Act → World → Prop} {E : Prop} (hgd : o.guard = none) (s x : Operand)
    (ho : o.op = .call { callee := .builtin .append, args := #[s, x], argTypes := #[22, 22] }) (base : Nat) (v : Value) (zs : List Int) (hs : a.eval s = v) (hown : Ow w base v zs)
    (ao : Option Addr) (m c : Nat) (ys : List Int) (hx : a.eval x = .slice ao m c) (hsrc : Rd w ao m c ys) (hb : zs.length + ys.length ≤ 70368744177664) (hbase : base ≤ w.heap.size)
    (h : ∀ v' w', Ow w' base v' (zs ++ ys) → w.grownBy w' v.ownBlock → K (a.put o.dst v') w') :
    if Region.wanted o (yielded ops a.tmps) = true then Oper.wp Tryd.prog o a w K Q else E := by
  have hw : Region.wanted o (yielded ops a.tmps) = true := by simp [Region.wanted, hgd]
  rw [if_pos hw]
  obtain ⟨v', w', hr, h2, h3⟩ := run_append_rd (w := w) o.type base v zs hown ao m c ys hsrc hb hbase
  unfold Oper.wp execOp
  simp only [ho, resolve, invoke, builtin, Sem.run_bind, Sem.run_pure, Result.andThen_ok, List.map_toArray, List.map_cons, List.map_nil, hs, hx, hr]
  exact h v' w' h2 h3

theorem half_unique (z : Int) (k : Nat) (hk : k ≤ 16) (h : ∀ j : Nat, j < k → hexD j ≠ z) (h2 : k < 16 → hexD k = z) : halfV z = k := by
  unfold halfV
  by_cases a : 48 ≤ z ∧ z ≤ 57
  · rw [if_pos a]
    by_cases hl : k < 16
    · have := h2 hl
      unfold hexD at this
      split at this <;> omega
    · have := h (z - 48).toNat (by omega)
      exfalso; apply this
      unfold hexD; rw [if_pos (by omega)]; omega
  · rw [if_neg a]
    by_cases b : 65 ≤ z ∧ z ≤ 70
    · rw [if_pos b]
      by_cases hl : k < 16
      · have := h2 hl
        unfold hexD at this
        split at this <;> omega
      · have := h (z - 55).toNat (by omega)
        exfalso; apply this
        unfold hexD; rw [if_neg (by omega)]; omega
    · rw [if_neg b]
      by_cases hl : k < 16
      · have := h2 hl
        unfold hexD at this
        split at this <;> omega
      · omega

set_option maxHeartbeats 400000 in
theorem half_any (z : Int) (w : World) : Calls Tryd.prog 27 #[.int .u8 z] w fun e w' => e = .returned (.int .i64 (halfV z)) ∧ w = w' := by
  go_enter Tryd.func27, Tryd.ntmps27
  go_wp2
  go_loop [3] (fun i => ∃ k : Nat, k ≤ 16 ∧ i = .int .i64 k ∧ ∀ j : Nat, j < k → hexD j ≠ z) (fun i => 16 - (intOf i).toNat)
  case atStart => exact ⟨0, by omega, rfl, fun j hj => by omega⟩
  case round =>
    obtain ⟨k, hk, rfl, hne⟩ := hrel
    have HN := hid hne
    clear hne
    by_cases hlt : k < 16
    · have hlt' : (k : Int) < 16 := by omega
      by_cases he : hexD k = z
      · have hq : (hexD (k : Int) != z) = false := by simp [he]
        have HV := hid (half_unique z k hk HN.out (fun _ => he))
        clear he
        go_wp2_with (go_at_call 24; refine (digit_any (k : Int) _ (by omega) (by omega)).mono ?_; rintro e w' ⟨rfl, rfl⟩)
        go_ret
        exact ⟨by rw [HV.out]; rfl, rfl⟩
      · have hq : (hexD (k : Int) != z) = true := by simp [he]
        have HM : Hid (∀ j : Nat, j < k + 1 → hexD j ≠ z) := by
          intro j hj
          by_cases e : j = k
          · subst e; exact he
          · exact HN.out j (by omega)
        clear he
        go_wp2_with (go_at_call 24; refine (digit_any (k : Int) _ (by omega) (by omega)).mono ?_; rintro e w' ⟨rfl, rfl⟩)
        go_round
        case rel => exact ⟨k + 1, by omega, by go_num, HM.out⟩
        case measure => simp [intOf]; omega
    · have hlt' : ¬ (k : Int) < 16 := by omega
      have HV := hid (half_unique z k hk HN.out (fun h => absurd h hlt))
      go_wp2
      go_ret
      exact ⟨by rw [HV.out]; rfl, rfl⟩

theorem str_ne {a b : ByteArray} (h : a ≠ b) : (a.toList == b.toList) = false := by
  rw [beq_eq_false_iff_ne]
  intro e
  rw [ByteArray.toList_eq, ByteArray.toList_eq] at e
  exact h (Go.WideShapes.bytes_inj e)
theorem sd_end (L : List Int) (h : L.length ≤ 1) : sd L = [] := by
  match L, h with
  | [], _ => rfl
  | [_], _ => rfl
  | _ :: _ :: _, h => simp at h
theorem sd_pct (L : List Int) (h : 3 ≤ L.length) (hz : L[0]?.getD 0 = 37) : sd L = (halfV (L[1]?.getD 0) % 16 * 16 + halfV (L[2]?.getD 0) % 16) :: sd (L.drop 3) := by
  match L, h with
  | z :: x :: y :: r, _ =>
    have : z = 37 := hz
    simp only [sd]
    rw [if_pos this]
    rfl
theorem sd_else (L : List Int) (h : 2 ≤ L.length) (hz : L[0]?.getD 0 ≠ 37 ∨ L.length < 3) : sd L = L[0]?.getD 0 :: sd (L.drop 1) := by
  match L, h with
  | [z, x], _ => rfl
  | z :: x :: y :: r, _ =>
    have : z ≠ 37 := by
      rcases hz with h | h
      · exact h
      · simp at h; omega
    simp only [sd]
    rw [if_neg this]
    rfl
theorem at_drop (s : ByteArray) (k j : Nat) (h : k + j < s.size) : ((bytesOf s).drop k)[j]?.getD 0 = (s[k + j].toNat : Int) := by
  rw [List.getElem?_drop]
  have h' : k + j < (bytesOf s).length := by rw [bytesOf_len]; exact h
  rw [List.getElem?_eq_getElem h']
  simp [bytesOf]
  rfl

set_option maxHeartbeats 1000000 in
theorem specUnquote_any (s : ByteArray) (w : World) (hs : s.size ≤ 1048576) :
    Calls Tryd.prog 17 #[.string s] w fun e w' => e = .returned (.tuple #[.string (strOf ((uq s).getD [])), .bool (uq s).isSome]) ∧ Below w.heap.size w w' := by
  by_cases h2 : s.size < 2
  · have HU := hid (uq_short s h2)
    have h2' : (s.size : Int) < 2 := by omega
    go_enter Tryd.func17, Tryd.ntmps17
    go_wp2
    go_ret2
    exact ⟨by rw [HU.out]; rfl, Below.refl _ _⟩
  · have h2' : ¬ (s.size : Int) < 2 := by omega
    by_cases h3 : 12290 < s.size
    · have HU := hid (uq_long s h3)
      have h3' : (12290 : Int) < (s.size : Int) := by omega
      go_enter Tryd.func17, Tryd.ntmps17
      go_wp2
      go_ret2
      exact ⟨by rw [HU.out]; rfl, Below.refl _ _⟩
    · have h3' : ¬ (12290 : Int) < (s.size : Int) := by omega
      have HM := hid (uq_model s (by omega))
      have HO0 := hid (ow_new w w.heap.size (Nat.le_refl _))
      go_enter Tryd.func17, Tryd.ntmps17
      go_wp2
      go_loopw [4, 5] (fun v i wr => ∃ (k : Nat) (o : List Int), k ≤ s.size ∧ 1 ≤ k ∧ i = .int .i64 k ∧ o.length ≤ k ∧ (∀ z ∈ o, 0 ≤ z ∧ z ≤ 255) ∧ o ++ sd ((bytesOf s).drop k) = sd ((bytesOf s).drop 1) ∧ Ow wr w.heap.size v o ∧ Below w.heap.size w wr) (fun _ i _ => s.size - (intOf i).toNat)
      case atStart => exact ⟨1, [], by omega, by omega, rfl, by simp, by simp, rfl, HO0.out, (Below.refl _ _).alloc (Nat.le_refl _) _⟩
      case round =>
        obtain ⟨k, o, hk, hk1, rfl, hol, hob, hso, hown, hbel⟩ := hrel
        have HO := hid hown
        have HB := hid hbel
        have HOB := hid hob
        have HS := hid hso
        have hsz := hbel.size
        clear hown hbel hob hso
        by_cases hlt : k < s.size - 1
        · have hlt' : (k : Int) < (s.size : Int) - 1 := by omega
          have hkl : (k : Int) < (s.size : Int) := by omega
          have hkk : k < s.size := by omega
          have e0 := at_drop s k 0 (by omega)
          have hz1 : (s[k].toNat : Int) ≤ 255 := by have := s[k].toNat_lt; omega
          have hdl : ((bytesOf s).drop k).length = s.size - k := by rw [List.length_drop, bytesOf_len]
          by_cases hp : (s[k].toNat : Int) = 37 ∧ k + 2 < s.size
          · obtain ⟨hp1, hp2⟩ := hp
            have e1 := at_drop s k 1 (by omega)
            have e2 := at_drop s k 2 (by omega)
            have HP := hid (sd_pct ((bytesOf s).drop k) (by omega) (by rw [e0]; exact hp1))
            rw [e1, e2] at HP
            have hq : ((s[k].toNat : Int) == 37) = true := by simp [hp1]
            have hq2 : (k : Int) + 2 < (s.size : Int) := by omega
            have hq3 : (k : Int) + 1 < (s.size : Int) := by omega
            have r1 := half_range (s[k + 1].toNat : Int)
            have r2 := half_range (s[k + 2].toNat : Int)
            clear e0 e1 e2 hp1 hdl
            have m1 : IntKind.i64.wrap ((k : Int) + 1) = (k : Int) + 1 := by rw [IntKind.wrap_i64]; omega
            have m2 : IntKind.i64.wrap ((k : Int) + 2) = (k : Int) + 2 := by rw [IntKind.wrap_i64]; omega
            have t1 : ((k : Int) + 1).toNat = k + 1 := by omega
            have t2 : ((k : Int) + 2).toNat = k + 2 := by omega
            have p1 : 0 ≤ (k : Int) + 1 := by omega
            have p2 : 0 ≤ (k : Int) + 2 := by omega
            have m3 : (halfV (s[k + 1].toNat : Int)).tmod 16 = halfV (s[k + 1].toNat : Int) % 16 := Int.tmod_eq_emod_of_nonneg r1.1
            have m4 : (halfV (s[k + 2].toNat : Int)).tmod 16 = halfV (s[k + 2].toNat : Int) % 16 := Int.tmod_eq_emod_of_nonneg r2.1
            have m5 : IntKind.i64.wrap (halfV (s[k + 1].toNat : Int) % 16 * 16) = halfV (s[k + 1].toNat : Int) % 16 * 16 := by rw [IntKind.wrap_i64]; omega
            have m6 : IntKind.i64.wrap (halfV (s[k + 1].toNat : Int) % 16 * 16 + halfV (s[k + 2].toNat : Int) % 16) = halfV (s[k + 1].toNat : Int) % 16 * 16 + halfV (s[k + 2].toNat : Int) % 16 := by rw [IntKind.wrap_i64]; omega
            have m7 : IntKind.u8.wrap (halfV (s[k + 1].toNat : Int) % 16 * 16 + halfV (s[k + 2].toNat : Int) % 16) = halfV (s[k + 1].toNat : Int) % 16 * 16 + halfV (s[k + 2].toNat : Int) % 16 := by simp [IntKind.wrap, IntKind.signed, IntKind.bits]; omega
            have HO1 := hid (show Ow (wr.alloc (.cells #[.int .u8 (halfV (s[k + 1].toNat : Int) % 16 * 16 + halfV (s[k + 2].toNat : Int) % 16)] 5)).drew w.heap.size u4 o from HO.out.alloc _)
            have HR1 := hid (show Rd (wr.alloc (.cells #[.int .u8 (halfV (s[k + 1].toNat : Int) % 16 * 16 + halfV (s[k + 2].toNat : Int) % 16)] 5)).drew (some ⟨wr.heap.size, 0, none⟩) 1 1 [halfV (s[k + 1].toNat : Int) % 16 * 16 + halfV (s[k + 2].toNat : Int) % 16] from rd_one wr _ (by omega) (by omega))
            go_wp2_with fail
            go_region_law (first
              | (refine step_append_rd rfl _ _ rfl w.heap.size _ o rfl HO1.out _ _ _ [halfV (s[k + 1].toNat : Int) % 16 * 16 + halfV (s[k + 2].toNat : Int) % 16] rfl HR1.out (by simp; omega) (by simp; omega) ?_; intro v2 w2 hown2 hg2)
              | (go_simp; go_wp2_with (go_at_call 27; refine (half_any _ _).mono ?_; rintro e w' ⟨rfl, rfl⟩)))
            all_goals
              have hb2 : Below w.heap.size w w2 := Ow.below HO1.out ((HB.out.alloc hsz _).drew) (by simp; omega) hg2
              have HO2 := hid hown2
              have HS2 : Hid (o ++ [halfV (s[k + 1].toNat : Int) % 16 * 16 + halfV (s[k + 2].toNat : Int) % 16] ++ sd ((bytesOf s).drop (k + 3)) = sd ((bytesOf s).drop 1)) := by
                show o ++ [halfV (s[k + 1].toNat : Int) % 16 * 16 + halfV (s[k + 2].toNat : Int) % 16] ++ sd ((bytesOf s).drop (k + 3)) = sd ((bytesOf s).drop 1)
                rw [← HS.out, HP.out, List.drop_drop]
                simp
              clear hown2 hg2 m3 m4 m5 m6 m7
              go_wp2
              go_roundw
              case rel => exact ⟨k + 3, _, by omega, by omega, by go_num, by simp; omega, byte_append HOB.out (by intro z hz; simp at hz; omega), HS2.out, HO2.out, hb2⟩
              case measure => simp [intOf]; omega
          · have HP := hid (sd_else ((bytesOf s).drop k) (by omega) (by rw [e0]; simp only [Nat.add_zero]; omega))
            rw [e0] at HP
            simp only [Nat.add_zero] at HP
            have hz0 : (0 : Int) ≤ (s[k].toNat : Int) := by omega
            rcases (by simp only [beq_eq_false_iff_ne, beq_iff_eq]; omega : ((s[k].toNat : Int) == 37) = false ∨ (((s[k].toNat : Int) == 37) = true ∧ ¬ (k : Int) + 2 < (s.size : Int))) with hq | ⟨hq, hq2⟩
            all_goals
              clear hp e0 hdl
              go_wp2_with (at_builtin; refine wpList_append_rd rfl _ _ rfl w.heap.size _ o rfl (HO.out.alloc _) _ _ _ [(s[k].toNat : Int)] rfl ?src ?b ?base ?_)
              case src => exact rd_one wr _ hz0 hz1
              case b => first | omega | (simp; omega)
              case base => first | omega | (simp; omega)
              intro v2 w2 hown2 hg2
              have hb2 : Below w.heap.size w w2 := Ow.below (HO.out.alloc _) (HB.out.alloc hsz _) (by simp; omega) hg2
              have HO2 := hid hown2
              have HS2 : Hid (o ++ [(s[k].toNat : Int)] ++ sd ((bytesOf s).drop (k + 1)) = sd ((bytesOf s).drop 1)) := by
                show o ++ [(s[k].toNat : Int)] ++ sd ((bytesOf s).drop (k + 1)) = sd ((bytesOf s).drop 1)
                rw [← HS.out, HP.out, List.drop_drop]
                simp
              clear hown2 hg2
              go_wp2
              go_roundw
              case rel => exact ⟨k + 1, _, by omega, by omega, by go_num, by simp; omega, byte_append HOB.out (by intro z hz; simp at hz; omega), HS2.out, HO2.out, hb2⟩
              case measure => simp [intOf]; omega
        · have hlt' : ¬ (k : Int) < (s.size : Int) - 1 := by omega
          have HE : Hid (o = sd ((bytesOf s).drop 1)) := by
            show o = sd ((bytesOf s).drop 1)
            rw [← HS.out, sd_end ((bytesOf s).drop k) (by rw [List.length_drop, bytesOf_len]; omega)]
            simp
          obtain ⟨a3, c3, hv3, hrd3, _⟩ := HO.out.rd (byte_at HOB.out) (by omega)
          have hst := run_str hrd3
          have HR3 := hid hrd3
          generalize hL3 : o.length = L3 at hv3 hst hol
          have HL3 := hid hL3
          clear hrd3 hL3
          have hv3' := hid hv3
          rw [hv3]
          clear hv3
          go_wp2_with fail
          refine (specQuote_any (strOf o) wr (by rw [str_size, HL3.out]; omega)).mono ?_
          rintro e w3 ⟨rfl, hb3⟩
          have HB3 := hid (HB.out.trans (hb3.mono hsz))
          have hst3 : (convert 22 9 (.slice a3 L3 c3)).run Tryd.prog w3 = .ok (.string (strOf o)) w3 := by
            rw [← HL3.out]
            exact run_str (HR3.out.kept hb3)
          clear hb3 hst
          by_cases hqq : qt (strOf o) = s
          · have HU : Hid (uq s = some o) := by
              show uq s = some o
              rw [HE.out]; rw [HE.out] at hqq
              exact HM.out.1 hqq
            rw [hqq]
            clear hqq
            go_wp2
            go_ret2
            exact ⟨by rw [HU.out]; rfl, HB3.out⟩
          · have HU : Hid (uq s = none) := by
              show uq s = none
              rw [HE.out] at hqq
              exact HM.out.2 hqq
            have hq1 := str_ne hqq
            clear hqq
            go_wp2
            go_ret2
            exact ⟨by rw [HU.out]; rfl, HB3.out⟩
end Go.Proofs.YtceplgnijcdbfahDoor
