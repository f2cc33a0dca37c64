/-
  Appending pairs to a row of one's own; the method all: it adds the pairs below a limb.
-/
import Derived.Test.YtbaggkfgnjenoaaLm
namespace Go.Proofs.Ytbaggkfgnjenoaa
open Go.RowKit

/-- The slice value v owns, from block base on, a row of the pairs l. -/
def Ow (w : World) (base : Nat) (v : Value) (l : List PB) : Prop := w.ownsRow base 69 2 v l.length (pcs l)
theorem Ow.to {w w' : World} {R : Nat → Prop} {base : Nat} {v : Value} {l : List PB} (h : Ow w base v l) (ho : Only R w w') (hR : ∀ k, v.ownBlock = some k → ¬ R k) : Ow w' base v l := own_kept h ho hR
theorem Ow.kept {w w' : World} {base : Nat} {v : Value} {l : List PB} (h : Ow w base v l) (hb : Below w.heap.size w w') : Ow w' base v l := h.to (only_of_below hb (fun _ => False)) (fun _ _ h => h)
theorem Ow.pr {w : World} {base : Nat} {v : Value} {l : List PB} (h : Ow w base v l) {S : Nat → Prop} (hS : ∀ k, v.ownBlock = some k → base ≤ k → k < w.heap.size → S k) : Pr w S v l := rw_own h hS
theorem Ow.shape' {w : World} {base : Nat} {v : Value} {l : List PB} (h : Ow w base v l) : ∃ a n c, v = .slice a n c ∧ Hid (n = l.length) := by
  obtain ⟨a, c, rfl⟩ := own_shape h
  exact ⟨a, _, c, rfl, rfl⟩
theorem Ow.shape {w : World} {base : Nat} {v : Value} {l : List PB} (h : Ow w base v l) : ∃ a c, v = .slice a l.length c := own_shape h
theorem ow_nil (w : World) (base : Nat) : Ow w base (.slice none 0 0) [] := World.ownsRow_nil w base _ _
theorem info_of {P : Program} {e : TypeId} {z : Value} {size bytes : Nat} (h : (P.info? e).map (fun i => (i.zero, i.size, i.bytes)) = some (some z, size, bytes)) : ∃ i, P.info? e = some i ∧ i.zero = some z ∧ i.size = size ∧ i.bytes = bytes := by
  obtain ⟨i, hi, hz⟩ := Option.map_eq_some_iff.1 h
  simp only [Prod.mk.injEq] at hz
  exact ⟨i, hi, hz⟩
theorem wpList_append_pairs {w : World} {ops : Array Oper} {rest : List Oper} {o : Oper} {a : Act} {Q : Exit → Act → World → Prop} (hgd : o.guard = none) (s x : Operand)
    (ho : o.op = .call { callee := .builtin .append, args := #[s, x], argTypes := #[66, 66] }) (base : Nat) (v : Value) (l : List PB) (hs : a.eval s = v) (hown : Ow w base v l)
    (S : Nat → Prop) (src : Value) (m : List PB) (hx : a.eval x = src) (hsrc : Pr w S src m) (hb : l.length + m.length ≤ 2097154) (hbase : base ≤ w.heap.size)
    (h : ∀ v' w', Ow w' base v' (l ++ m) → w.grownBy w' v.ownBlock → wpList Try.prog ops Q rest (a.put o.dst v') w') : wpList Try.prog ops Q (o :: rest) a w := by
  obtain ⟨i, hi, hz, hsz, hby⟩ := info_of infoPairI
  refine wpList_append_row hgd s x 66 ho base 69 i _ 2 32 Try.underlying66 hi hz hsz hby rfl (by decide) v l.length (pcs l) hs hown S src m.length (pcs m) hx hsrc (pcs_length m) (pcs_one m) (by unfold maxLen; omega) (by omega) hbase ?_
  intro v' w' h1 h2
  refine h v' w' ?_ h2
  unfold Ow
  rw [List.length_append, pcs_append]
  exact h1
theorem only_of_belowB {B : Nat} {w w' : World} (h : Below B w w') : Only (fun b => B ≤ b) w w' := ⟨h.os, h.tape, h.output, h.size, fun b _ hn => h.block b (by omega)⟩
theorem grown_belowB {w w' : World} {base : Nat} {v : Value} {l : List PB} (h : Ow w base v l) (hg : w.grownBy w' v.ownBlock) (hB : base ≤ w.heap.size) : Below base w w' := (Below.refl _ _).grown hg hB fun k hk => (World.ownsRow.lt h k hk).1
theorem allL_take (ks : List T) (k : Nat) (h : k < ks.length) : allL (ks.take (k + 1)) = allL (ks.take k) ++ (tAt ks k).all := by
  induction ks generalizing k with
  | nil => simp at h
  | cons x ks ih =>
    cases k with
    | zero => simp [allL, tAt]
    | succ k =>
      have := ih k (by simpa using h)
      simp only [List.take_succ_cons, allL, this, List.append_assoc]
      rfl
theorem allL_take_le (ks : List T) (k : Nat) : (allL (ks.take k)).length ≤ (allL ks).length := by
  induction ks generalizing k with
  | nil => simp [allL]
  | cons x ks ih =>
    cases k with
    | zero => simp [allL]
    | succ k =>
      have := ih k
      simp only [List.take_succ_cons, allL, List.length_append]
      omega
set_option maxHeartbeats 4000000 in
theorem all_any (t : T) : ∀ (S : Nat → Prop) (b : Nat) (w : World) (base : Nat) (v : Value) (l : List PB), Limb w S b t → (∀ x, S x → x < base) → base ≤ w.heap.size → Ow w base v l → l.length + t.all.length ≤ 1048576 →
    Calls Try.prog 108 #[.pointer (some ⟨b, 0, none⟩), v] w fun e w' => ∃ v', e = .returned v' ∧ Ow w' base v' (l ++ t.all) ∧ Below base w w' := by
  induction t using T.ind
  rename_i ps ks ih
  intro S b w base v l hL hS hbase hO hlen
  have H0 := hid hL
  have HO := hid hO
  have HS := hid hS
  have HIH := hid ih
  have HLE := hid hlen
  obtain ⟨ap, cp, ak, ck, A, c0, c1, hp, hk, hkid, _, _⟩ := hL.see
  have HP := hid hp
  have HK := hid hk
  obtain ⟨av, nv, cv, hv, HNV⟩ := hO.shape'
  have HLP : Hid (l.length + ps.length + (allL ks).length ≤ 1048576) := by
    show _ ≤ _
    have := hlen
    simp [T.all] at this
    omega
  simp only [T.ps, T.ks] at *
  clear hL hO hS ih hlen hp hk hkid
  subst hv
  go_enter Try.func108, Try.ntmps108
  go_wp2_with (at_builtin; refine wpList_append_pairs rfl _ _ rfl base _ l rfl HO.out S _ ps rfl HP.out ?b1 ?b2 ?_)
  case b1 => have := HLP.out; omega
  case b2 => exact hbase
  intro v1 w1 hO1 hg1
  have HB1 := hid (grown_belowB HO.out hg1 hbase)
  have HO1 := hid hO1
  have HL1 := hid (H0.out.to (only_of_belowB HB1.out) (fun x hx h => by have := HS.out x hx; omega))
  obtain ⟨a1, n1, cc1, hv1, HN1⟩ := hO1.shape'
  clear hO1 hg1
  subst hv1
  clear c0 c1 HP HK
  obtain ⟨ap', cp', ak', ck', A', c0, c1, hp, hk, hkid, m1, m2⟩ := HL1.out.see
  have HK := hid hk
  have HKID := hid hkid
  simp only [T.ps, T.ks] at c0 c1 m2
  have hm2 : ks.length ≤ 9223372036854775807 := m2
  clear hp hk hkid m1 m2
  generalize hn : ks.length = n at *
  have HN := hid hn
  clear hn
  go_wp2_with fail
  go_loopw [1, 18] (fun x i wr => ∃ (k : Nat) (v' : Value), k ≤ n ∧ i = .int .i64 k ∧ x = v' ∧ Hid (Ow wr base v' (l ++ ps ++ allL (ks.take k))) ∧ Hid (Below base w1 wr) ∧ Hid (Below base w wr)) (fun _ i _ => n - (intOf i).toNat)
  case atStart => exact ⟨0, _, Nat.zero_le _, rfl, rfl, by show Ow _ _ _ _; simpa [allL] using HO1.out, Below.refl _ _, HB1.out⟩
  case round =>
    obtain ⟨k, v', hk, rfl, hv', HO2, HB12, HB2⟩ := hrel
    obtain ⟨a2, n2, cc2, hv2, HN2⟩ := HO2.out.shape'
    subst hv2
    subst hv'
    by_cases hlt : k < n
    · have hlt' : (k : Int) < (n : Int) := by omega
      have HL2 := hid (H0.out.to (only_of_belowB HB2.out) (fun x hx h => by have := HS.out x hx; omega))
      have hks : k < ks.length := by rw [HN.out]; exact hlt
      obtain ⟨x, off, rfl, hSx, hxw, hc⟩ := Rw.at (HK.out.to (only_of_belowB HB12.out) (fun x hx _ h => by have := HS.out x hx; omega)) (by simp only [T.ks]; omega)
      have d0 := hc k _ (ptrs_at A' _ k (by simp only [T.ks]; omega))
      obtain ⟨S1, hS1, hk0⟩ := HKID.out k (by simp only [T.ks]; omega)
      have HK0 := hid (hk0.to (only_of_belowB HB12.out) (fun x hx h => by have := HS.out x (hS1 x hx); omega))
      have HS1 : Hid (∀ x, S1 x → x < base) := fun x hx => HS.out x (hS1 x hx)
      have HTK : Hid (allL (ks.take (k + 1)) = allL (ks.take k) ++ (tAt ks k).all) := allL_take ks k hks
      have HLEN : Hid ((l ++ ps ++ allL (ks.take k)).length + (tAt ks k).all.length ≤ 1048576) := by
        show _ ≤ _
        have h1 := allL_take_le ks (k + 1)
        have h2 := HLP.out
        rw [HTK.out] at h1
        simp only [List.length_append] at h1 ⊢
        omega
      have HMEM : Hid (tAt ks k ∈ ks) := by
        show _ ∈ _
        simp only [tAt, List.getElem?_eq_getElem hks, Option.getD_some]
        exact List.getElem_mem hks
      simp only [T.ks, ptr] at d0 HK0
      clear hc hk0 hS1 hxw hSx
      go_wp2_with fail
      refine (HIH.out (tAt ks k) HMEM.out S1 (A' k) wr base (.slice a2 n2 cc2) (l ++ ps ++ allL (ks.take k)) HK0.out HS1.out (Nat.le_trans hbase HB2.out.size) HO2.out HLEN.out).mono ?_
      rintro e w3 ⟨v3, rfl, hO3, hb3⟩
      have HO3 : Hid (Ow w3 base v3 (l ++ ps ++ allL (ks.take (k + 1)))) := by
        show Ow _ _ _ _
        rw [HTK.out, ← List.append_assoc]
        exact hO3
      have HB3 := hid (HB2.out.trans hb3)
      have HB4 := hid (HB12.out.trans hb3)
      obtain ⟨a3, n3, cc3, hv3, HN3⟩ := hO3.shape'
      subst hv3
      clear hO3 hb3
      go_wp2
      go_roundw
      case rel => exact ⟨k + 1, _, by omega, by go_num, rfl, HO3.out, HB4.out, HB3.out⟩
      case measure => simp [intOf]; omega
    · have hk' : k = n := by omega
      have HO3 : Hid (Ow wr base (.slice a2 n2 cc2) (l ++ (T.mk ps ks).all)) := by
        show Ow _ _ _ _
        have e : l ++ (T.mk ps ks).all = l ++ ps ++ allL (ks.take k) := by rw [hk', ← HN.out, List.take_length]; simp [T.all]
        rw [e]
        exact HO2.out
      clear hk'
      go_wp2
      go_ret
      exact ⟨_, rfl, HO3.out, HB2.out⟩
end Go.Proofs.Ytbaggkfgnjenoaa

