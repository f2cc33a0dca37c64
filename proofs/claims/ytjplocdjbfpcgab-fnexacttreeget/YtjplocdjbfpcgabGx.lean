/-
  get: what lies beside a key in a tree.
-/
import Derived.Test.YtjplocdjbfpcgabKf
namespace Go.Proofs.Ytjplocdjbfpcgab
open Go.RowKit
/-- What a look-up answers. -/
def gotV : Option ByteArray → Value
  | none => .tuple #[.string ⟨#[]⟩, .bool false]
  | some v => .tuple #[.string v, .bool true]
structure GetOk (t : T) : Prop where
  asc : Asc t.all
  br : t.ks ≠ [] → t.ps = [] ∧ ∀ x ∈ t.ks, x.full false = true
  few : t.ps.length ≤ 8 ∧ t.ks.length ≤ 8
theorem full_getOk {t : T} {r : Bool} (h : t.full r = true) (ha : Asc t.all) : GetOk t := by
  obtain ⟨ps, ks⟩ := t
  by_cases hk : ks = []
  · subst hk
    exact ⟨ha, fun h => absurd rfl h, by have := full_lf h; show ps.length ≤ 8 ∧ 0 ≤ 8; omega⟩
  · have := full_br h hk
    refine ⟨ha, fun _ => this.2.2, ?_, ?_⟩
    · show ps.length ≤ 8
      rw [this.2.2.1]
      decide
    · show ks.length ≤ 8
      omega
theorem szL_mem : ∀ (ks : List T) (x : T), x ∈ ks → x.size ≤ szL ks
  | k :: ks, x, h => by
    rw [szL]
    rcases List.mem_cons.1 h with rfl | h
    · omega
    · have := szL_mem ks x h; omega
theorem kid_size {ps : List PB} {ks : List T} {x : T} (h : x ∈ ks) : x.size < (T.mk ps ks).size := by
  have := szL_mem ks x h
  rw [T.size]
  omega
set_option maxHeartbeats 4000000 in
theorem get_any (S : Nat → Prop) (b : Nat) (t : T) (k : ByteArray) (w : World) (h : Limb w S b t) (hg : GetOk t) :
    Calls Try.prog 48 #[.pointer (some ⟨b, 0, none⟩), .string k] w fun e w' => e = .returned (gotV (fnd t.all k)) ∧ Below w.heap.size w w' := by
  have H0 := hid h
  have HG := hid hg
  clear h hg
  go_enter Try.func48, Try.ntmps48
  go_wp2_with fail
  go_loopg [0] t.size (fun m p wr => ∃ (b' : Nat) (S' : Nat → Prop) (t' : T) (q : Nat), p = .pointer (some ⟨b', 0, none⟩) ∧ wr = w.drewN q ∧ Hid (Limb w S' b' t') ∧ Hid (GetOk t' ∧ fnd t'.all k = fnd t.all k ∧ m = t'.size))
  case atStart => exact ⟨b, S, t, 0, rfl, rfl, H0.out, HG.out, rfl, rfl⟩
  case round =>
    obtain ⟨b', S', t', q, rfl, rfl, HL, HT⟩ := hrel
    have HL1 := hid (HL.out.kept (Below.drewN' (Below.refl _ _) q))
    go_wp2_with fail
    refine (isLeaf_any S' b' t' _ HL1.out).mono ?_
    rintro e w1 ⟨rfl, rfl⟩
    by_cases hk : t'.ks = []
    · have e0 : decide (t'.ks.length = 0) = true := by rw [hk]; rfl
      rw [e0]
      have hall : t'.all = t'.ps := by obtain ⟨ps, ks⟩ := t'; simp only [T.ks] at hk; subst hk; simp [T.all, allL, T.ps]
      have HA : Hid (Asc t'.ps) := by have := HT.out.1.asc; rw [hall] at this; exact this
      have HR : Hid (fnd t.all k = if there t'.ps k = true then some (pAtB t'.ps (pos t'.ps k)).2 else none) := by
        show _ = _
        rw [← HT.out.2.1, hall, pos_fnd k HA.out]
        simp [there]
      have HPL := hid HT.out.1.few.1
      clear hk e0 hall
      go_wp2_with fail
      refine (pairFor_any S' b' t' k _ HL1.out HA.out (by have := HPL.out; omega)).mono ?_
      rintro e w2 ⟨rfl, hb⟩
      have HB := hid (Below.then' (Below.drewN' (Below.refl w.heap.size w) q) hb (Nat.le_refl _))
      have HL2 := hid (HL1.out.kept hb)
      clear hb HL1
      cases hth : there t'.ps k with
      | false =>
        have HR2 : Hid (fnd t.all k = none) := by have := HR.out; rw [hth] at this; show _ = _; simpa using this
        generalize pos t'.ps k = p at *
        clear hth
        go_wp2
        go_ret2
        exact ⟨by rw [HR2.out]; rfl, HB.out⟩
      | true =>
        have HR2 : Hid (fnd t.all k = some (pAtB t'.ps (pos t'.ps k)).2) := by have := HR.out; rw [hth] at this; show _ = _; simpa using this
        have hlt : pos t'.ps k < t'.ps.length := (of_decide_eq_true hth).1
        obtain ⟨ap, cp, ak, ck, A, c0, c1, hp, hk, hkid, _, _⟩ := HL2.out.see
        have hck := (Rw.len hp).2
        obtain ⟨x, off, rfl, _, _, _⟩ := Rw.at hp (by omega)
        obtain ⟨d0, d1⟩ := Pr.cells hp hlt
        have hlt' : (pos t'.ps k : Int) < (t'.ps.length : Int) := by omega
        generalize (pAtB t'.ps (pos t'.ps k)).2 = z at *
        generalize pos t'.ps k = p at *
        clear hth hk hkid hp c1 HA HR
        go_wp2
        go_ret2
        exact ⟨by rw [HR2.out]; rfl, HB.out⟩
    · have e0 : decide (t'.ks.length = 0) = false := by
        refine decide_eq_false fun h => hk (List.eq_nil_of_length_eq_zero h)
      rw [e0]
      obtain ⟨hps, hfl⟩ := HT.out.1.br hk
      have hall : t'.all = allL t'.ks := by obtain ⟨ps, ks⟩ := t'; simp only [T.ps] at hps; subst hps; simp [T.all, T.ks]
      have hasc := HT.out.1.asc
      rw [hall] at hasc
      obtain ⟨hf1, hf2⟩ := kid_fnd (k := k) hk hfl hasc
      obtain ⟨hq1, _, _⟩ := kidOf_spec k hk
      have HC := hid (fun m => kidFor_any S' b' t' k ((w.drewN q).drewN m) (HL1.out.kept (Below.drewN' (Below.refl _ _) m)) hfl (by have := HT.out.1.few; omega))
      obtain ⟨ap, cp, ak, ck, A, c0, c1, _, hkk, hkid, _, _⟩ := HL1.out.see
      have hck := (Rw.len hkk).2
      obtain ⟨x, off, rfl, _, _, hc⟩ := Rw.at hkk (by omega)
      have d0 := hc (kidOf t'.ks k) _ (ptrs_at A _ _ hq1)
      obtain ⟨S1, _, hk1⟩ := hkid (kidOf t'.ks k) hq1
      simp only [ptr] at d0
      have HT1 : Hid (GetOk (tAt t'.ks (kidOf t'.ks k)) ∧ fnd (tAt t'.ks (kidOf t'.ks k)).all k = fnd t.all k ∧ (tAt t'.ks (kidOf t'.ks k)).size < t'.size) := by
        refine ⟨full_getOk (hfl _ (tAt_mem hq1)) hf2, ?_, ?_⟩
        · rw [← hf1, ← hall]; exact HT.out.2.1
        · obtain ⟨ps, ks⟩ := t'
          exact kid_size (tAt_mem hq1)
      have HL3 : Hid (Limb w S1 (A (kidOf t'.ks k)) (tAt t'.ks (kidOf t'.ks k))) := hk1.kept (undrew w q)
      have hq' : (kidOf t'.ks k : Int) < (t'.ks.length : Int) := by omega
      clear hc hkk hkid hk1 hf1 hf2 hasc hall hfl hps hk e0
      generalize A (kidOf t'.ks k) = bk at *
      generalize tAt t'.ks (kidOf t'.ks k) = tk at *
      generalize kidOf t'.ks k = p at *
      generalize hW : w.drewN q = W at *
      have HW := hid hW
      clear hW
      go_wp2_with fail
      go_quiet (first | (go_at_call 73; exact Calls.quiet_of (HC.out _)) | fail)
      go_wp2
      go_roundg tk.size
      case measure => have := HT.out.2.2; have := HT1.out.2.2; omega
      case rel => exact ⟨bk, S1, tk, q + nq, rfl, by rw [← HW.out, World.drewN_drewN], HL3.out, HT1.out.1, HT1.out.2.1, rfl⟩
end Go.Proofs.Ytjplocdjbfpcgab
