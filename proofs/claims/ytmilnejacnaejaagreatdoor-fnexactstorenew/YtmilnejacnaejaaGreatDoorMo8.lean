/-
  StoreNew as plain data: the disk that the first meta is written on, and what is opened from it.
-/
import Derived.Test.YtmilnejacnaejaaGreatDoorMo7
import Derived.Test.YtmilnejacnaejaaGreatDoorMo5
import Derived.Test.YtmilnejacnaejaaGreatDoorMo4
import Derived.Test.YtmilnejacnaejaaGreatDoorMo6
import Derived.Test.YtmilnejacnaejaaGreatDoorMo2
import Derived.Test.YtmilnejacnaejaaGreatDoorMo3
import Derived.Laws.CopyRow
import Derived.Lib.AppendZerosOnto
import Derived.Lib.Overlaps
import Derived.Deep.RegionLaw
import Derived.Test.YtmilnejacnaejaaGreatDoorMo1
import Derived.Deep.DeepCutAuto
import Derived.Lib.Bytealg
namespace Go.Proofs.YtmilnejacnaejaaGreatDoor
set_option linter.unusedVariables false
def snM : List Int := mtFull 1 0
def sn0 (n : Int) : DK := ⟨List.replicate n.toNat [], []⟩
def snD (n : Int) : DK := ⟨(List.replicate n.toNat []).set 1 snM, []⟩
def snO : List OW := [(false, 1, snM), (true, 0, [])]
theorem snM_len : snM.length = 512 := mtFull_len 1 0
theorem dn_some {n : Int} (h : 2 ≤ n ∧ n ≤ 400) : dnV n = some (sn0 n) := by rw [dnV, if_pos h]; rfl
theorem sn0_ok {n : Int} (h : 2 ≤ n ∧ n ≤ 400) : dkOk (sn0 n) = true := by
  refine (dkOk_iff _).2 ⟨?_, ?_, ?_, ?_, ?_⟩
  · simp [sn0]; omega
  · simp [sn0]; omega
  · simp [sn0]
  · intro i hi
    exact (shtOk_iff _).2 (.inl (by simp [sn0, shAt, List.getElem?_replicate]; split <;> rfl))
  · intro i hi
    simp [sn0] at hi
theorem snW_ok {n : Int} (h : 2 ≤ n ∧ n ≤ 400) : dkOk (dwrD (sn0 n) 1 snM) = true := by
  have h0 := (dkOk_iff _).1 (sn0_ok h)
  refine (dkOk_iff _).2 ⟨h0.1, h0.2.1, ?_, h0.2.2.2.1, ?_⟩
  · simp [dwrD, sn0]
  · intro i hi
    have hi0 : i = 0 := by simp [dwrD, sn0] at hi; omega
    subst hi0
    have : dwAt (dwrD (sn0 n) 1 snM).dw 0 = (1, snM) := rfl
    rw [this]
    have h1 : (dwrD (sn0 n) 1 snM).sh.length = n.toNat := by simp [dwrD, sn0]
    rw [h1]
    simp only [wrtOk, Bool.and_eq_true, decide_eq_true_eq]
    exact ⟨⟨by omega, by omega⟩, snM_len⟩
theorem snW_some {n : Int} (h : 2 ≤ n ∧ n ≤ 400) : dwrV (sn0 n) 1 snM = some (dwrD (sn0 n) 1 snM) := by rw [dwrV, if_pos (snW_ok h)]
theorem sn_sync {n : Int} (h : 2 ≤ n ∧ n ≤ 400) : dsV (dwrD (sn0 n) 1 snM) = snD n := by
  rw [dsV, if_pos (snW_ok h)]
  rfl
theorem sn_ops {n : Int} (h : 2 ≤ n ∧ n ≤ 400) : doV (sn0 n) snO = snD n := by
  rw [doV, if_pos (sn0_ok h), snO, opS]
  have e1 : op1 (sn0 n) (false, 1, snM) = some (dwrD (sn0 n) 1 snM) := by
    rw [op1]
    exact snW_some h
  rw [e1]
  show (match op1 (dwrD (sn0 n) 1 snM) (true, 0, []) with | none => none | some d' => opS [] d').getD emD = _
  have e2 : op1 (dwrD (sn0 n) 1 snM) (true, 0, []) = some (snD n) := by
    rw [op1, if_pos rfl, sn_sync h]
  rw [e2]
  rfl
theorem sn_at1 {n : Int} (h : 2 ≤ n ∧ n ≤ 400) : shAt (snD n).sh 1 = snM := by
  have : 1 < (List.replicate n.toNat ([] : List Int)).length := by simp; omega
  simp [snD, shAt, List.getElem?_set_self this]
theorem sn_at0 (n : Int) : shAt (snD n).sh 0 = [] := by
  simp [snD, shAt, List.getElem?_replicate]
  split <;> rfl
theorem snD_ok {n : Int} (h : 2 ≤ n ∧ n ≤ 400) : dkOk (snD n) = true := by
  refine (dkOk_iff _).2 ⟨?_, ?_, ?_, ?_, ?_⟩
  · simp [snD]; omega
  · simp [snD]; omega
  · simp [snD]
  · intro i hi
    by_cases e : i = 1
    · subst e
      rw [sn_at1 h]
      exact (shtOk_iff _).2 (.inr snM_len)
    · refine (shtOk_iff _).2 (.inl ?_)
      have : shAt (snD n).sh i = [] := by
        simp [snD, shAt, List.getElem?_set_ne (fun q => e q.symm), List.getElem?_replicate]
        split <;> rfl
      rw [this]; rfl
  · intro i hi
    simp [snD] at hi
theorem sn_rd {n : Int} (h : 2 ≤ n ∧ n ≤ 400) {t : Nat} (ht : t < 2) : rdV (snD n) (t : Int) = some (sheet (shAt (snD n).sh t)) := by
  have h1 : (snD n).sh.length = n.toNat := by simp [snD]
  rw [rdV, if_pos ⟨snD_ok h, by omega, by rw [h1]; omega⟩]
  rfl
theorem sn_m1 {n : Int} (h : 2 ≤ n ∧ n ≤ 400) : shMeta (snD n) 1 = some (1, 0) := by
  rw [shMeta, sn_rd h (by decide), sn_at1 h, Option.getD_some]
  have : sheet snM = snM := by rw [sheet, if_neg (by rw [snM_len]; decide)]
  rw [this]
  exact (mrd_iff snM 1 0).2 rfl
theorem sn_m0 {n : Int} (h : 2 ≤ n ∧ n ≤ 400) : shMeta (snD n) 0 = none := by
  rw [shMeta, sn_rd h (by decide), sn_at0, Option.getD_some]
  cases e : mrd (sheet []) with
  | none => rfl
  | some m =>
    have hb := (mrd_iff (sheet []) m.1 m.2).1 e
    unfold mtBytes at hb
    split at hb
    · have h2 : (mtFull m.1 m.2)[0]? = some 77 := rfl
      rw [Option.some.inj hb] at h2
      exact absurd h2 (by decide)
    · cases hb
theorem sn_best {n : Int} (h : 2 ≤ n ∧ n ≤ 400) : bestM (snD n) 2 = (1, 0) := by
  rw [bestM, bestM, bestM, sn_m1 h, sn_m0 h]
  rfl
theorem sn_root {n : Int} (h : 2 ≤ n ∧ n ≤ 400) : stR (snD n) = some ([], []) := by rw [stR, sn_best h]; rfl
theorem sn_code {n : Int} (h : 2 ≤ n ∧ n ≤ 400) : stC (snD n) = 0 := by
  unfold stC
  rw [if_neg (by rw [snD_ok h]; simp [snD]), sn_best h, if_pos (by decide), sn_root h]
  rfl
theorem sn_gen {n : Int} (h : 2 ≤ n ∧ n ≤ 400) : stG (snD n) = 1 ∧ stD (snD n) = snD n ∧ stL (snD n) = ([], []) := by
  refine ⟨?_, ?_, ?_⟩
  · rw [stG, if_pos (sn_code h), sn_best h]
  · rw [stD, if_pos (sn_code h)]
  · rw [stL, if_pos (sn_code h), sn_root h]; rfl
open Go.RowKit
set_option linter.unusedVariables false
structure VX (w v : World) (sa : Option Addr) (sn sc : Nat) (da : Option Addr) (dn dc : Nat) (g cc : Nat) (V : List Value) (ss : List (List Int)) : Prop where
  bel : Below w.heap.size w v
  k0 : Bk v w.heap.size 25 [.slice sa sn sc, .slice da dn dc]
  k1 : Bk v (w.heap.size + 1) 25 [.slice none 0 0, .slice none 0 0]
  row : v.ownsRow (w.heap.size + 2) 130 1 (.slice (some ⟨g, 0, none⟩) sn cc) sn V
  len : V.length = sn
  ssl : ss.length = sn
  byt' : ∀ i, i < sn → By v (fun y => y ≠ g) (uAt V i) (shAt ss i)
theorem one_slices {w : World} {S : Nat → Prop} {V : List Value} {ss : List (List Int)} (hl : V.length = ss.length) (h : ∀ i, i < ss.length → By w S (uAt V i) (shAt ss i)) : ∀ u ∈ V, u.oneCell' = true := by
  intro u hu
  obtain ⟨i, hi, rfl⟩ := List.mem_iff_getElem.1 hu
  obtain ⟨a, c, e⟩ := (h i (by omega)).1.sliceOf
  have : V[i] = uAt V i := by simp [uAt, hi]
  rw [this, e]
  rfl
structure SH (v : World) (Q : Nat → Prop) (B g cc sn : Nat) (V : List Value) (ss : List (List Int)) : Prop where
  row : v.ownsRow B 130 1 (.slice (some ⟨g, 0, none⟩) sn cc) sn V
  len : V.length = sn
  ssl : ss.length = sn
  byt' : ∀ i, i < sn → By v Q (uAt V i) (shAt ss i)
  off : ¬ Q g
theorem SH.below {v v' : World} {Q : Nat → Prop} {B g cc sn : Nat} {V : List Value} {ss : List (List Int)} (h : SH v Q B g cc sn V ss) (hb : Below v.heap.size v v') : SH v' Q B g cc sn V ss :=
  ⟨own_kept h.row (only_of_below hb (fun _ => False)) (fun _ _ h => h), h.len, h.ssl, fun i hi => (h.byt' i hi).below hb, h.off⟩
theorem SH.put {v : World} {Q : Nat → Prop} {B g cc sn : Nat} {V : List Value} {ss : List (List Int)} (h : SH v Q B g cc sn V ss) {k : Nat} {p : Value} {x : List Int} (hk : k < sn) (hp : By v Q p x) : SH (v.setCell ⟨g, k, none⟩ p) Q B g cc sn (V.set k p) (ss.set k x) := by
  have o : Only (fun y => y = g) v (v.setCell ⟨g, k, none⟩ p) := only_set (R := fun y => y = g) rfl _
  refine ⟨ownD_set h.row k p, by rw [List.length_set]; exact h.len, by rw [List.length_set]; exact h.ssl, fun i hi => ?_, h.off⟩
  by_cases e : i = k
  · subst e
    rw [uAt_set (by rw [h.len]; exact hi), shAt_set (by rw [h.ssl]; exact hi)]
    exact hp.to o (fun b hb _ e => h.off (e ▸ hb))
  · rw [uAt_other e, shAt_other e]
    exact (h.byt' i hi).to o (fun b hb _ e => h.off (e ▸ hb))
theorem SH.shr {v : World} {Q : Nat → Prop} {B g cc sn : Nat} {V : List Value} {ss : List (List Int)} (h : SH v Q B g cc sn V ss) : Shr v (fun _ => True) (.slice (some ⟨g, 0, none⟩) sn cc) ss := by
  refine ⟨V, by rw [h.len, h.ssl], ?_, fun i hi => (h.byt' i (by rw [← h.ssl]; exact hi)).mono (fun _ _ _ => trivial)⟩
  rw [h.ssl]
  exact rw_own h.row (fun _ _ _ _ => trivial)
def Wr2 (w : World) (R Q : Nat → Prop) (v : Value) (ds : List DW) : Prop := ∃ U : List (Int × Value), U.length = ds.length ∧ Rw w R v ds.length (wcs U) ∧ ∀ i, i < ds.length → (xAt U i).1 = (dwAt ds i).1 ∧ By w Q (xAt U i).2 (dwAt ds i).2
theorem Wr2.to {w w' : World} {R Q P : Nat → Prop} {v : Value} {ds : List DW} (h : Wr2 w R Q v ds) (ho : Only P w w') (hR : ∀ b, R b → b < w.heap.size → ¬ P b) (hQ : ∀ b, Q b → b < w.heap.size → ¬ P b) : Wr2 w' R Q v ds := by
  obtain ⟨V, h1, h2, h3⟩ := h
  exact ⟨V, h1, h2.to ho hR, fun i hi => ⟨(h3 i hi).1, (h3 i hi).2.to ho hQ⟩⟩
theorem Wr2.len {w : World} {R Q : Nat → Prop} {a : Option Addr} {n c : Nat} {ds : List DW} (h : Wr2 w R Q (.slice a n c) ds) : n = ds.length ∧ n ≤ c ∧ c ≤ 9223372036854775807 := by
  obtain ⟨V, h1, h2, h3⟩ := h
  exact Rw.len h2
theorem Wr2.at {w : World} {R Q : Nat → Prop} {a : Option Addr} {n c : Nat} {ds : List DW} (h : Wr2 w R Q (.slice a n c) ds) (hp : 0 < n) : ∃ b off, a = some ⟨b, off, none⟩ ∧ R b ∧ b < w.heap.size ∧ ∀ i, i < n → ∃ ap np cp,
    w.cell? ⟨b, off + i * 2, none⟩ = some (.int .i64 (dwAt ds i).1) ∧ w.cell? ⟨b, off + i * 2 + 1, none⟩ = some (.slice ap np cp) ∧ By w Q (.slice ap np cp) (dwAt ds i).2 := by
  obtain ⟨V, h1, h2, h3⟩ := h
  have hn := (Rw.len h2).1
  obtain ⟨b, off, e1, e2, e3, e4⟩ := h2.at hp
  refine ⟨b, off, e1, e2, e3, fun i hi => ?_⟩
  obtain ⟨k0, k1⟩ := h3 i (by omega)
  obtain ⟨c0, c1⟩ := wcs_at V i (by omega)
  have d0 := e4 _ _ c0
  have d1 := e4 _ _ c1
  obtain ⟨ap, cp, g0⟩ := k1.1.sliceOf
  rw [g0] at d1 k1
  rw [k0] at d0
  exact ⟨ap, _, cp, d0, d1, k1⟩
set_option maxHeartbeats 8000000 in
set_option maxRecDepth 20000 in
theorem writeDown_any (Q : Nat → Prop) (B g cc sn : Nat) (V : List Value) (ss : List (List Int)) (da : Option Addr) (dn dc : Nat) (ds : List DW) (w : World) (h : SH w Q B g cc sn V ss) (hd : Wr2 w (fun y => y ≠ g) Q (.slice da dn dc) ds) (hok : ∀ i, i < ds.length → wrtOk sn (dwAt ds i) = true) (hn : dn ≤ 1048576) (hs : sn ≤ 1048576) :
    Calls Tryz.prog 150 #[.slice (some ⟨g, 0, none⟩) sn cc, .slice da dn dc] w fun e w' => e = .returned (.tuple #[]) ∧ Only (fun y => y = g) w w' ∧ ∃ V', SH w' Q B g cc sn V' (syS ss ds ds.length) := by
  have HD := hid hd
  have HOK := hid hok
  have H0 := hid h
  have H0f := hid h.off
  have hcc := (own_at h.row).2.1
  have hcc' := (own_at h.row).2.2.1
  have HND := hid hd.len.1
  have hdc := hd.len.2
  clear h hd hok
  go_enter Tryz.func150, Tryz.ntmps150
  go_wp2_with fail
  go_loopw [8] (fun i wr => ∃ (k : Nat) (V : List Value), k ≤ dn ∧ i = .int .i64 k ∧ Hid (SH wr Q B g cc sn V (syS ss ds k)) ∧ Hid (Only (fun y => y = g) w wr)) (fun i _ => dn - (intOf i).toNat)
  case atStart => exact ⟨0, V, Nat.zero_le _, rfl, H0.out, Only.refl _ _⟩
  case round =>
    clear H0
    obtain ⟨k, V, hk, rfl, VV, OO⟩ := hrel
    by_cases hlt : k < dn
    · have hlt' : (k : Int) < (dn : Int) := by omega
      obtain ⟨b2, off2, rfl, hb2, hbw, hcell⟩ := (HD.out.to OO.out (fun y hy _ e => hy e) (fun y hy _ e => H0f.out (e ▸ hy))).at (by omega)
      obtain ⟨ap, np, cp, mt, m0, hp⟩ := hcell k hlt
      have hkl : k < ds.length := by rw [← HND.out]; exact hlt
      have hwk := (wrtOk_iff _ _).1 (HOK.out k hkl)
      obtain ⟨u, hu⟩ : ∃ u : Nat, (dwAt ds k).1 = (u : Int) := ⟨(dwAt ds k).1.toNat, by omega⟩
      have hus : u < sn := by omega
      have hus' : (u : Int) < (sn : Int) := by omega
      rw [hu] at mt
      have HSY : Hid (syS ss ds (k + 1) = (syS ss ds k).set u (dwAt ds k).2) := by show _ = _; rw [syS, hu]; rfl
      have hb0 := below_new (o := .cells #[.int .i64 (u : Int), .slice ap np cp] 99) (w := wr) (Below.refl _ _)
      have hgg := World.ownsRow.lt VV.out.row g rfl
      have V2 : Hid (SH ((wr.alloc (.cells #[.int .i64 (u : Int), .slice ap np cp] 99)).setCell ⟨g, u, none⟩ (.slice ap np cp)) Q B g cc sn (V.set u (.slice ap np cp)) (syS ss ds (k + 1))) := by
        rw [HSY.out]
        exact (VV.out.below hb0).put hus (hp.below hb0)
      have O2 : Hid (Only (fun y => y = g) w ((wr.alloc (.cells #[.int .i64 (u : Int), .slice ap np cp] 99)).setCell ⟨g, u, none⟩ (.slice ap np cp))) := (OO.out.trans (only_of_below hb0 _)).trans (only_set (R := fun y => y = g) rfl _)
      have V2' : Hid (SH ((wr.setCell ⟨g, u, none⟩ (.slice ap np cp)).alloc (.cells #[.int .i64 (u : Int), .slice ap np cp] 99)) Q B g cc sn (V.set u (.slice ap np cp)) (syS ss ds (k + 1))) := by
        rw [HSY.out]
        exact (VV.out.put hus hp).below (below_new (Below.refl _ _))
      have O2' : Hid (Only (fun y => y = g) w ((wr.setCell ⟨g, u, none⟩ (.slice ap np cp)).alloc (.cells #[.int .i64 (u : Int), .slice ap np cp] 99))) := (OO.out.trans (only_set (R := fun y => y = g) rfl _)).trans (only_of_below (below_new (Below.refl _ _)) _)
      obtain ⟨-, -, -, hr⟩ := own_at VV.out.row
      obtain ⟨g', e', -, -, hf, hcl⟩ := hr (by omega)
      cases e'
      have n0 := hcl u _ (uAt_some (by rw [VV.out.len]; exact hus))
      have f0 := hf u
      generalize uAt V u = o0 at *
      have sg := hgg.2
      clear hcell hbw hp hwk hu hr hf hcl hb0 VV OO HSY hgg hb2
      go_wp2
      go_roundw
      case rel => exact ⟨k + 1, _, by omega, by go_num, (by first | exact V2.out | exact V2'.out), (by first | exact O2.out | exact O2'.out)⟩
      case measure => simp [intOf]; omega
    · have HKD : Hid (k = ds.length) := by show _ = _; rw [← HND.out]; omega
      go_wp2
      go_end0
      exact ⟨rfl, OO.out, V, by rw [← HKD.out]; exact VV.out⟩
open Go.RowKit
set_option linter.unusedVariables false
set_option maxHeartbeats 2000000 in
set_option maxRecDepth 100000 in
theorem cloneW_any (S : Nat → Prop) (a : Option Addr) (n c : Nat) (xs : List Value) (w : World) (h : Rw w S (.slice a n c) n xs) (hl : xs.length = n * 2) (h1 : ∀ u ∈ xs, u.oneCell' = true) (hn : n ≤ 1048576) :
    Calls Tryz.prog 85 #[.slice a n c] w fun e w' => ∃ a' c', e = .returned (.slice a' n c') ∧ w'.ownsRow w.heap.size 99 2 (.slice a' n c') n xs ∧ Below w.heap.size w w' := by
  cases a with
  | none =>
    have hc : c = 0 := by obtain ⟨a', c', e, -, -, -, h6, -⟩ := h; cases e; exact h6 rfl
    have hn0 : n = 0 := by have := (Rw.len h).2.1; omega
    subst hc hn0
    have HX : Hid (xs = []) := List.eq_nil_of_length_eq_zero (by omega)
    have he : ∀ w : World, (binOp .eql 23 (.slice none 0 0) (.slice none 0 0)).run Tryz.prog w = .ok (.bool true) w := fun _ => rfl
    clear h hl h1
    go_enter Tryz.func85, Tryz.ntmps85
    go_wp2
    go_ret
    exact ⟨none, 0, rfl, by rw [HX.out]; exact World.ownsRow_nil _ _ _ _, Below.refl _ _⟩
  | some x =>
    obtain ⟨ti, hti, htz, hts, htb⟩ := info_of infoWriteI
    have hb0 := below_new (o := .cells #[] 99) (w := w) (Below.refl _ _)
    have HR := hid (h.below hb0)
    have HO : Hid ((w.alloc (.cells #[] 99)).ownsRow w.heap.size 99 2 (.slice (some ⟨w.heap.size, 0, none⟩) 0 0) 0 []) := bk_own (n := 0) (size := 2) (Bk.new w 99 []) (by simp) (by omega) (Nat.le_refl _)
    have HB := hid hb0
    have HZ : Hid (w.heap.size ≤ (w.alloc (.cells #[] 99)).heap.size) := hb0.size
    have hkm : 0 + n ≤ maxLen := by unfold maxLen; omega
    have hkb : (0 + n) * 32 ≤ 140737488355328 := by omega
    have HL : Hid (xs.length = n * 2) := hl
    have H1 := hid h1
    have he : ∀ w : World, (binOp .eql 23 (.slice (some x) n c) (.slice none 0 0)).run Tryz.prog w = .ok (.bool false) w := fun _ => rfl
    clear h hl h1 hb0
    go_enter Tryz.func85, Tryz.ntmps85
    go_wp2_with (at_builtin; refine wpList_append_row_at rfl _ _ _ rfl w.heap.size 99 ti (.agg #[.int .i64 0, .slice none 0 0]) 2 32 Tryz.underlying23 hti htz hts htb rfl (by decide) _ 0 [] rfl HO.out S _ n xs rfl HR.out HL.out H1.out hkm hkb HZ.out ?_)
    intro v5 w5 hO5 hg5 ha5
    have O5 : Hid (w5.ownsRow w.heap.size 99 2 v5 n xs) := by show World.ownsRow _ _ _ _ _ _ _; simpa using hO5
    have B5 : Hid (Below w.heap.size w w5) := HB.out.trans ((only_of_grown hg5 (R := fun y => y = w.heap.size) (fun k e => by simpa [Value.ownBlock] using e.symm)).below HZ.out (fun y hy e => by omega))
    obtain ⟨a5, c5, rfl⟩ := own_shape O5.out
    clear hO5 hg5 ha5 HO HR HB
    go_wp2
    go_ret
    exact ⟨_, _, rfl, O5.out, B5.out⟩
structure HD (w v : World) (hb g cc sn : Nat) (V : List Value) (ss : List (List Int)) (da : Option Addr) (dn dc : Nat) (U : List (Int × Value)) (ds : List DW) : Prop where
  bel : Below w.heap.size w v
  k4 : Bk v (w.heap.size + 1) 25 [.slice none 0 0, .slice none 0 0]
  kh : Bk v hb 25 [.slice (some ⟨g, 0, none⟩) sn cc, .slice da dn dc]
  sh : SH v (fun y => y < w.heap.size) (w.heap.size + 2) g cc sn V ss
  drow : v.ownsRow (w.heap.size + 2) 99 2 (.slice da dn dc) ds.length (wcs U)
  ulen : U.length = ds.length
  dby : ∀ i, i < ds.length → (xAt U i).1 = (dwAt ds i).1 ∧ By v (fun y => y < w.heap.size) (xAt U i).2 (dwAt ds i).2
  ap : (Value.slice da dn dc).ownBlock ≠ some g
  hg : hb ≠ g
  hd : (Value.slice da dn dc).ownBlock ≠ some hb
  hl : w.heap.size + 2 ≤ hb
  ok : dkOk ⟨ss, ds⟩ = true
theorem HD.below {w v v' : World} {hb g cc sn : Nat} {V : List Value} {ss : List (List Int)} {da : Option Addr} {dn dc : Nat} {U : List (Int × Value)} {ds : List DW} (h : HD w v hb g cc sn V ss da dn dc U ds) (hb' : Below v.heap.size v v') : HD w v' hb g cc sn V ss da dn dc U ds :=
  ⟨bt7 h.bel hb', h.k4.below hb', h.kh.below hb', h.sh.below hb', own_kept h.drow (only_of_below hb' (fun _ => False)) (fun _ _ h => h), h.ulen, fun i hi => ⟨(h.dby i hi).1, (h.dby i hi).2.below hb'⟩, h.ap, h.hg, h.hd, h.hl, h.ok⟩
theorem HD.wrr {w v : World} {hb g cc sn : Nat} {V : List Value} {ss : List (List Int)} {da : Option Addr} {dn dc : Nat} {U : List (Int × Value)} {ds : List DW} (h : HD w v hb g cc sn V ss da dn dc U ds) {Q : Nat → Prop} (hQ : ∀ y, y < w.heap.size → Q y) (hQ2 : ∀ y, (Value.slice da dn dc).ownBlock = some y → Q y) : Wrr v Q (.slice da dn dc) ds :=
  ⟨U, h.ulen, rw_own h.drow (fun k e _ _ => hQ2 k e), fun i hi => ⟨(h.dby i hi).1, (h.dby i hi).2.mono (fun y hy _ => hQ y hy)⟩⟩
theorem HD.dk {w v : World} {hb g cc sn : Nat} {V : List Value} {ss : List (List Int)} {da : Option Addr} {dn dc : Nat} {U : List (Int × Value)} {ds : List DW} (h : HD w v hb g cc sn V ss da dn dc U ds) : Dk v (fun _ => True) (some ⟨g, 0, none⟩) sn cc da dn dc ⟨ss, ds⟩ := ⟨h.sh.shr, h.wrr (fun _ _ => trivial) (fun _ _ => trivial)⟩
theorem HD.lens {w v : World} {hb g cc sn : Nat} {V : List Value} {ss : List (List Int)} {da : Option Addr} {dn dc : Nat} {U : List (Int × Value)} {ds : List DW} (h : HD w v hb g cc sn V ss da dn dc U ds) : sn = ss.length ∧ dn = ds.length ∧ (2 ≤ sn ∧ sn ≤ 400 ∧ dn ≤ 500) ∧ sn ≤ cc ∧ cc ≤ 9223372036854775807 ∧ dn ≤ dc ∧ dc ≤ 9223372036854775807 := by
  have h1 := own_at h.drow
  have h2 := own_at h.sh.row
  have h3 := dk_smallO h.ok
  have h4 := h.sh.ssl
  simp only at h3
  exact ⟨h4.symm, h1.1, ⟨by omega, by omega, by omega⟩, h2.2.1, h2.2.2.1, h1.2.1, h1.2.2.1⟩
theorem HD.sync {w v v' : World} {hb g cc sn : Nat} {V V' : List Value} {ss : List (List Int)} {da : Option Addr} {dn dc : Nat} {U : List (Int × Value)} {ds : List DW} (h : HD w v hb g cc sn V ss da dn dc U ds) (o : Only (fun y => y = g) v v') (hs : SH v' (fun y => y < w.heap.size) (w.heap.size + 2) g cc sn V' (syS ss ds ds.length)) :
    HD w (v'.setCell ⟨hb, 1, none⟩ (.slice none 0 0)) hb g cc sn V' (dsV ⟨ss, ds⟩).sh none 0 0 [] (dsV ⟨ss, ds⟩).dw := by
  have he := dsV_ok h.ok
  have hl := h.hl
  have hg := World.ownsRow.lt h.sh.row g rfl
  have o2 : Only (fun y => y = hb) v' (v'.setCell ⟨hb, 1, none⟩ (.slice none 0 0)) := only_set (R := fun y => y = hb) rfl _
  have hok := he.2
  rw [he.1] at hok ⊢
  refine ⟨(h.bel.trans (o.below h.bel.size (fun y hy e => by omega))).setCell (p := ⟨hb, 1, none⟩) (by show w.heap.size ≤ hb; omega) _, (h.k4.to o (by omega)).setOther (by omega) _ _, (h.kh.to o h.hg).set 1 _, ⟨own_kept hs.row o2 (fun y e e2 => (by cases e; exact h.hg e2.symm)), hs.len, hs.ssl, fun i hi => (hs.byt' i hi).to o2 (fun y hy _ e => by omega), hs.off⟩, World.ownsRow_nil _ _ _ _, rfl, fun i hi => (by simp at hi), fun e => (by cases e), h.hg, fun e => (by cases e), hl, hok⟩
theorem HD.push {w v v5 : World} {hb g cc sn : Nat} {V : List Value} {ss : List (List Int)} {da : Option Addr} {dn dc : Nat} {U : List (Int × Value)} {ds : List DW} (h : HD w v hb g cc sn V ss da dn dc U ds) (t : Int) (x : List Int) (p : Value) (hx : By v (fun y => y < w.heap.size) p x) {a5 : Option Addr} {n5 c5 : Nat}
    (ho : v5.ownsRow (w.heap.size + 2) 99 2 (.slice a5 n5 c5) (ds.length + 1) (wcs U ++ [.int .i64 t, p])) (hgr : v.grownBy v5 (Value.slice da dn dc).ownBlock) (ha : (Value.slice a5 n5 c5).ownBlock = (Value.slice da dn dc).ownBlock ∨ (Value.slice a5 n5 c5).ownBlock = some v.heap.size) (hok : dkOk ⟨ss, ds ++ [(t, x)]⟩ = true) :
    HD w (v5.setCell ⟨hb, 1, none⟩ (.slice a5 n5 c5)) hb g cc sn V ss a5 n5 c5 (U ++ [(t, p)]) (ds ++ [(t, x)]) := by
  have o : Only (fun y => (Value.slice da dn dc).ownBlock = some y) v v5 := only_of_grown hgr (fun k e => e)
  have o2 : Only (fun y => y = hb) v5 (v5.setCell ⟨hb, 1, none⟩ (.slice a5 n5 c5)) := only_set (R := fun y => y = hb) rfl _
  have hl := h.hl
  have hlt : ∀ y, (Value.slice da dn dc).ownBlock = some y → w.heap.size + 2 ≤ y := fun y e => (World.ownsRow.lt h.drow y e).1
  have hgl := World.ownsRow.lt h.sh.row g rfl
  have hkl := h.kh.lt
  have old : ∀ {z : Value} {zs : List Int}, By v (fun y => y < w.heap.size) z zs → By (v5.setCell ⟨hb, 1, none⟩ (.slice a5 n5 c5)) (fun y => y < w.heap.size) z zs := fun hz => (hz.to o (fun y hy _ e => by have := hlt y e; omega)).to o2 (fun y hy _ e => by omega)
  have hul := h.ulen
  refine ⟨(h.bel.trans (o.below h.bel.size (fun y hy e => by have := hlt y e; omega))).setCell (p := ⟨hb, 1, none⟩) (by show w.heap.size ≤ hb; omega) _, (h.k4.to o (fun e => by have := hlt _ e; omega)).setOther (by omega) _ _, (h.kh.to o (fun e => h.hd e)).set 1 _, ⟨own_kept (own_kept h.sh.row o (fun y e e2 => by cases e; exact h.ap e2)) o2 (fun y e e2 => by cases e; exact h.hg e2.symm), h.sh.len, h.sh.ssl, fun i hi => old (h.sh.byt' i hi), h.sh.off⟩, ?_, by simp [hul], fun i hi => ?_, ?_, h.hg, ?_, hl, hok⟩
  · rw [List.length_append, wcs_append]
    refine own_kept ho o2 (fun y e e2 => ?_)
    rcases ha with ha | ha
    · rw [ha] at e; exact h.hd (e2 ▸ e)
    · rw [ha] at e; cases e; omega
  · by_cases e : i < ds.length
    · rw [xAt_left (by omega), wAt_left e]
      exact ⟨(h.dby i e).1, old (h.dby i e).2⟩
    · obtain rfl : i = ds.length := by simp at hi; omega
      rw [wAt_end, ← hul, xAt_end]
      exact ⟨rfl, old hx⟩
  · intro e
    rcases ha with ha | ha
    · rw [ha] at e; exact h.ap e
    · rw [ha] at e; cases e; omega
  · intro e
    rcases ha with ha | ha
    · rw [ha] at e; exact h.hd e
    · rw [ha] at e; cases e; omega
theorem HD.cells {w v : World} {hb g cc sn : Nat} {V : List Value} {ss : List (List Int)} {da : Option Addr} {dn dc : Nat} {U : List (Int × Value)} {ds : List DW} (h : HD w v hb g cc sn V ss da dn dc U ds) : (v.cell? ⟨hb, 0, none⟩ = some (.slice (some ⟨g, 0, none⟩) sn cc) ∧ v.cell? ⟨hb, 1, none⟩ = some (.slice da dn dc)) ∧ v.frozen? ⟨hb, 1, none⟩ = false ∧ (v.cell? ⟨w.heap.size + 1, 0, none⟩ = some (.slice none 0 0) ∧ v.cell? ⟨w.heap.size + 1, 1, none⟩ = some (.slice none 0 0)) ∧ (v.frozen? ⟨w.heap.size + 1, 0, none⟩ = false ∧ v.frozen? ⟨w.heap.size + 1, 1, none⟩ = false) :=
  ⟨⟨h.kh.cell (j := 0) rfl, h.kh.cell (j := 1) rfl⟩, h.kh.free 1, ⟨h.k4.cell (j := 0) rfl, h.k4.cell (j := 1) rfl⟩, h.k4.free 0, h.k4.free 1⟩
set_option maxHeartbeats 800000 in
theorem deedOf_any (hb : Nat) (s : Bool) (t : Int) (p : Option Addr) (n c : Nat) (w : World) :
    Calls Tryz.prog 86 #[.pointer (some ⟨hb, 0, none⟩), .agg #[.bool s, .int .i64 t, .slice p n c]] w fun e w' => e = .returned (if s = true then .func (.func 149) #[] #[.pointer (some ⟨w.heap.size, 0, none⟩)] else .func (.func 151) #[] #[.pointer (some ⟨w.heap.size, 0, none⟩), .pointer (some ⟨w.heap.size + 1, 0, none⟩)]) ∧ (w.alloc (.cells #[.pointer (some ⟨hb, 0, none⟩)] 135)).alloc (.cells #[.bool s, .int .i64 t, .slice p n c] 101) = w' := by
  cases s with
  | true =>
    go_enter Tryz.func86, Tryz.ntmps86
    go_wp2
    go_ret
    exact ⟨rfl, rfl⟩
  | false =>
    go_enter Tryz.func86, Tryz.ntmps86
    go_wp2
    go_ret
    exact ⟨rfl, rfl⟩
set_option maxHeartbeats 2000000 in
set_option maxRecDepth 100000 in
theorem deedSync_any (u : World) (x hb g cc sn : Nat) (V : List Value) (ss : List (List Int)) (da : Option Addr) (dn dc : Nat) (U : List (Int × Value)) (ds : List DW) (w : World) (h : HD u w hb g cc sn V ss da dn dc U ds) (hx : Bk w x 135 [.pointer (some ⟨hb, 0, none⟩)]) (hxg : x ≠ g) (hxb : x ≠ hb) :
    Calls Tryz.prog 149 #[.pointer (some ⟨x, 0, none⟩)] w fun e w' => e = .returned (.bool true) ∧ ∃ V', HD u w' hb g cc sn V' (dsV ⟨ss, ds⟩).sh none 0 0 [] (dsV ⟨ss, ds⟩).dw := by
  have H0 := hid h
  have KX := hid hx
  obtain ⟨hn1, hn2, ⟨hn3, hn4, hn5⟩, hn6, hn7, hn8, hn9⟩ := h.lens
  have HN := hid (And.intro hn1 hn2)
  have HWK : Hid (∀ i, i < ds.length → wrtOk sn (dwAt ds i) = true) := fun i hi => by
    have := ((dkOk_iff _).1 h.ok).2.2.2.2 i hi
    rw [hn1]; exact this
  have HNX := hid (And.intro hxg (And.intro hxb h.hg))
  have HWD : Hid (∀ v, Below w.heap.size w v → Calls Tryz.prog 150 #[.slice (some ⟨g, 0, none⟩) sn cc, .slice da dn dc] v fun e w' => e = .returned (.tuple #[]) ∧ Only (fun y => y = g) v w' ∧ ∃ V', SH w' (fun y => y < u.heap.size) (u.heap.size + 2) g cc sn V' (syS ss ds ds.length)) := by
    intro v hb'
    have hv := H0.out.below hb'
    refine (writeDown_any _ _ g cc sn V ss da dn dc ds v hv.sh ⟨U, hv.ulen, rw_own hv.drow (fun y e _ _ e2 => hv.ap (e2 ▸ e)), hv.dby⟩ HWK.out (by omega) (by omega)).mono ?_
    rintro e w' ⟨h1, h2, h3⟩
    exact ⟨h1, h2, h3⟩
  clear h hx hn1 hn2
  have c0 := KX.out.cell (j := 0) rfl
  obtain ⟨⟨c1, c2⟩, f1, -, -⟩ := H0.out.cells
  have HS0 : Hid (w.drew.cell? ⟨x, 0, none⟩ = some (.pointer (some ⟨hb, 0, none⟩)) ∧ w.drew.cell? ⟨hb, 0, none⟩ = some (.slice (some ⟨g, 0, none⟩) sn cc) ∧ w.drew.cell? ⟨hb, 1, none⟩ = some (.slice da dn dc)) := ⟨by go_simp, by go_simp, by go_simp⟩
  go_enter Tryz.func149, Tryz.ntmps149
  go_wp2_with fail
  refine wp_region_noPanic ?_
  refine wp_region_held_drew (S := (fun v => v.cell? ⟨x, 0, none⟩ = some (.pointer (some ⟨hb, 0, none⟩)) ∧ v.cell? ⟨hb, 0, none⟩ = some (.slice (some ⟨g, 0, none⟩) sn cc) ∧ v.cell? ⟨hb, 1, none⟩ = some (.slice da dn dc))) (by kernel_rfl) HS0.out (fun hHeld => ?_)
  simp only [List.size_toArray, List.length_cons, List.length_nil, Array.replicate_succ, Array.replicate_zero, Nat.reduceAdd, List.push_toArray, List.nil_append, List.cons_append]
  refine wpAnyH_take (i := 0) (v := (.pointer (some ⟨hb, 0, none⟩))) rfl (by kernel_rfl) (by kernel_rfl) (by kernel_rfl) (fun _ _ _ h => h) (Or.inl ⟨by rfl, ?_⟩) (by assumption) ?_
  · intro w hSw
    (try dsimp only at hSw)
    go_simp
  try simp only [List.getElem_toArray]
  try simp only [List.getElem_cons_succ]
  try simp only [List.getElem_cons_zero]
  try simp only [Act.put]
  try simp only [List.setIfInBounds_toArray]
  try simp only [List.set_cons_succ]
  try simp only [List.set_cons_zero]
  refine wpAnyH_take (i := 1) (v := (.pointer (some ⟨hb, 0, none⟩))) rfl (by kernel_rfl) (by kernel_rfl) (by kernel_rfl) (fun _ _ _ h => h) (Or.inl ⟨by rfl, ?_⟩) (by assumption) ?_
  · intro w hSw
    (try dsimp only at hSw)
    go_simp
  try simp only [List.getElem_toArray]
  try simp only [List.getElem_cons_succ]
  try simp only [List.getElem_cons_zero]
  try simp only [Act.put]
  try simp only [List.setIfInBounds_toArray]
  try simp only [List.set_cons_succ]
  try simp only [List.set_cons_zero]
  refine wpAnyH_take (i := 2) (v := (.pointer (some ⟨hb, 0, none⟩))) rfl (by kernel_rfl) (by kernel_rfl) (by kernel_rfl) (fun _ _ _ h => h) (Or.inl ⟨by rfl, ?_⟩) (by assumption) ?_
  · intro w hSw
    (try dsimp only at hSw)
    go_simp
  try simp only [List.getElem_toArray]
  try simp only [List.getElem_cons_succ]
  try simp only [List.getElem_cons_zero]
  try simp only [Act.put]
  try simp only [List.setIfInBounds_toArray]
  try simp only [List.set_cons_succ]
  try simp only [List.set_cons_zero]
  refine wpAnyH_take (i := 3) (v := (.slice (some ⟨g, 0, none⟩) sn cc)) rfl (by kernel_rfl) (by kernel_rfl) (by kernel_rfl) (fun _ _ _ h => h) (Or.inl ⟨by rfl, ?_⟩) (by assumption) ?_
  · intro w hSw
    (try dsimp only at hSw)
    go_simp
  try simp only [List.getElem_toArray]
  try simp only [List.getElem_cons_succ]
  try simp only [List.getElem_cons_zero]
  try simp only [Act.put]
  try simp only [List.setIfInBounds_toArray]
  try simp only [List.set_cons_succ]
  try simp only [List.set_cons_zero]
  refine wpAnyH_take (i := 4) (v := (.pointer (some ⟨hb, 0, none⟩))) rfl (by kernel_rfl) (by kernel_rfl) (by kernel_rfl) (fun _ _ _ h => h) (Or.inl ⟨by rfl, ?_⟩) (by assumption) ?_
  · intro w hSw
    (try dsimp only at hSw)
    go_simp
  try simp only [List.getElem_toArray]
  try simp only [List.getElem_cons_succ]
  try simp only [List.getElem_cons_zero]
  try simp only [Act.put]
  try simp only [List.setIfInBounds_toArray]
  try simp only [List.set_cons_succ]
  try simp only [List.set_cons_zero]
  refine wpAnyH_take (i := 5) (v := (.pointer (some ⟨hb, 0, none⟩))) rfl (by kernel_rfl) (by kernel_rfl) (by kernel_rfl) (fun _ _ _ h => h) (Or.inl ⟨by rfl, ?_⟩) (by assumption) ?_
  · intro w hSw
    (try dsimp only at hSw)
    go_simp
  try simp only [List.getElem_toArray]
  try simp only [List.getElem_cons_succ]
  try simp only [List.getElem_cons_zero]
  try simp only [Act.put]
  try simp only [List.setIfInBounds_toArray]
  try simp only [List.set_cons_succ]
  try simp only [List.set_cons_zero]
  refine wpAnyH_take (i := 6) (v := (.pointer (some ⟨hb, 1, none⟩))) rfl (by kernel_rfl) (by kernel_rfl) (by kernel_rfl) (fun _ _ _ h => h) (Or.inl ⟨by rfl, ?_⟩) (by assumption) ?_
  · intro w hSw
    (try dsimp only at hSw)
    go_simp
  try simp only [List.getElem_toArray]
  try simp only [List.getElem_cons_succ]
  try simp only [List.getElem_cons_zero]
  try simp only [Act.put]
  try simp only [List.setIfInBounds_toArray]
  try simp only [List.set_cons_succ]
  try simp only [List.set_cons_zero]
  refine wpAnyH_take (i := 7) (v := (.slice da dn dc)) rfl (by kernel_rfl) (by kernel_rfl) (by kernel_rfl) (fun _ _ _ h => h) (Or.inl ⟨by rfl, ?_⟩) (by assumption) ?_
  · intro w hSw
    (try dsimp only at hSw)
    go_simp
  try simp only [List.getElem_toArray]
  try simp only [List.getElem_cons_succ]
  try simp only [List.getElem_cons_zero]
  try simp only [Act.put]
  try simp only [List.setIfInBounds_toArray]
  try simp only [List.set_cons_succ]
  try simp only [List.set_cons_zero]
  refine wpAnyH_ready (rs := [8]) (by kernel_rfl) (by simp) ?_
  refine AllReadyH.cons rfl (fun K1 hK => ?_) AllReadyH.nil
  go_simp
  refine (HWD.out _ (below_drew _)).mono ?_
  rintro e w4 ⟨rfl, ho, V4, hs4⟩
  have hon : Only (fun y => y = g) w w4 := (only_of_below (below_drew _) _).trans ho
  have X4 := hid (KX.out.to hon HNX.out.1)
  have J4 := hid (H0.out.kh.to hon HNX.out.2.2)
  have F4 := hid (H0.out.sync hon hs4)
  have s0 := X4.out.cell (j := 0) rfl
  have s1 := J4.out.cell (j := 0) rfl
  have s2 := J4.out.cell (j := 1) rfl
  have s3 := J4.out.free 1
  clear c0 c1 c2 f1 HS0 hon ho hs4
  go_wp2_with fail
  refine hK.out _ _ ?_ (fun hHeld => ?_)
  · exact ⟨s0, s1, s2⟩
  clear hK K1
  try simp only [List.getElem_toArray]
  try simp only [List.getElem_cons_succ]
  try simp only [List.getElem_cons_zero]
  try simp only [Act.put]
  try simp only [List.setIfInBounds_toArray]
  try simp only [List.set_cons_succ]
  try simp only [List.set_cons_zero]
  refine wpAnyH_done (by kernel_rfl) ?_ _
  refine NoPanic.normal ?_
  go_wp2
  go_ret
  exact ⟨rfl, V4, F4.out⟩
open Go.RowKit
set_option linter.unusedVariables false
theorem take_noO {P : Program} {md : Region.Mode} {ops : Array Oper} {Q : Exit → Act → World → Prop} {S : World → Prop} {i : Nat} {oi : Oper} {fuel : Nat} {listed : Array Bool} {a : Act} {w : World} (hi : ops[i]? = some oi)
    (hs : Region.noSelect ops = true) (hf : Region.free md ops listed i = true) (hr : (Region.ready md ops listed).contains i = true)
    (hQ : ∀ c a w, Q (.panic c) (a.put oi.dst undef) w → Q (.panic c) a w) (hw : Region.wanted oi (yielded ops a.tmps) = false) (hS : S w)
    (h : wpAnyH P md ops Q S fuel (listed.setIfInBounds i true) (a.put oi.dst undef) w) : wpAnyH P md ops Q S (fuel + 1) listed a w :=
  wpAnyH_take hi hs hf hr hQ (Or.inr ⟨hw, rfl⟩) hS h
theorem dwr_iff {d : DK} (h : dkOk d = true) (t : Int) (bs : List Int) : dkOk (dwrD d t bs) = (decide (d.dw.length + 1 ≤ 500) && wrtOk d.sh.length (t, bs)) := by
  have hk := (dkOk_iff d).1 h
  rw [Bool.eq_iff_iff, Bool.and_eq_true, decide_eq_true_eq, dkOk_iff]
  constructor
  · intro h2
    have h3 := h2.2.2.2.2 d.dw.length (by simp [dwrD])
    rw [show dwAt (dwrD d t bs).dw d.dw.length = (t, bs) from wAt_end _ _] at h3
    exact ⟨by have := h2.2.2.1; simpa [dwrD] using this, h3⟩
  · intro ⟨h2, h3⟩
    refine ⟨hk.1, hk.2.1, by simpa [dwrD] using h2, hk.2.2.2.1, fun i hi => ?_⟩
    by_cases e : i < d.dw.length
    · rw [show dwAt (dwrD d t bs).dw i = dwAt d.dw i from wAt_left e]
      exact hk.2.2.2.2 i e
    · obtain rfl : i = d.dw.length := by simp [dwrD] at hi; omega
      rw [show dwAt (dwrD d t bs).dw d.dw.length = (t, bs) from wAt_end _ _]
      exact h3
def DwP (u : World) (hb g cc sn : Nat) (V : List Value) (ss : List (List Int)) (ds : List DW) (t : Int) (bs : List Int) (e : Ending) (w' : World) : Prop :=
  (dkOk (dwrD ⟨ss, ds⟩ t bs) = true ∧ e = .returned (.bool true) ∧ ∃ a5 n5 c5 U5, HD u w' hb g cc sn V ss a5 n5 c5 U5 (ds ++ [(t, bs)])) ∨ (dkOk (dwrD ⟨ss, ds⟩ t bs) = false ∧ e = .returned (.bool false) ∧ Below u.heap.size u w' ∧ Bk w' (u.heap.size + 1) 25 [.slice none 0 0, .slice none 0 0])
structure HP (u v : World) (hb g cc sn : Nat) (V : List Value) (ss : List (List Int)) (ds : List DW) (t : Int) (bs : List Int) (a5 : Option Addr) (n5 c5 : Nat) : Prop where
  bel : Below u.heap.size u v
  k4 : Bk v (u.heap.size + 1) 25 [.slice none 0 0, .slice none 0 0]
  kh : Bk v hb 25 [.slice (some ⟨g, 0, none⟩) sn cc, .slice a5 n5 c5]
  good : dkOk (dwrD ⟨ss, ds⟩ t bs) = true → ∃ U5, HD u v hb g cc sn V ss a5 n5 c5 U5 (ds ++ [(t, bs)])
  len : n5 = ds.length + 1 ∧ n5 ≤ c5 ∧ c5 ≤ 9223372036854775807
theorem HP.below {u v v' : World} {hb g cc sn : Nat} {V : List Value} {ss : List (List Int)} {ds : List DW} {t : Int} {bs : List Int} {a5 : Option Addr} {n5 c5 : Nat} (h : HP u v hb g cc sn V ss ds t bs a5 n5 c5) (hb' : Below v.heap.size v v') : HP u v' hb g cc sn V ss ds t bs a5 n5 c5 :=
  ⟨bt7 h.bel hb', h.k4.below hb', h.kh.below hb', fun e => (by obtain ⟨U5, h5⟩ := h.good e; exact ⟨U5, h5.below hb'⟩), h.len⟩
theorem HD.append {w v v5 : World} {hb g cc sn : Nat} {V : List Value} {ss : List (List Int)} {da : Option Addr} {dn dc : Nat} {U : List (Int × Value)} {ds : List DW} (h : HD w v hb g cc sn V ss da dn dc U ds) (t : Int) (x : List Int) (p : Value) (hx : By v (fun y => y < w.heap.size) p x) {a5 : Option Addr} {n5 c5 : Nat}
    (ho : v5.ownsRow (w.heap.size + 2) 99 2 (.slice a5 n5 c5) (ds.length + 1) (wcs U ++ [.int .i64 t, p])) (hgr : v.grownBy v5 (Value.slice da dn dc).ownBlock) (ha : (Value.slice a5 n5 c5).ownBlock = (Value.slice da dn dc).ownBlock ∨ (Value.slice a5 n5 c5).ownBlock = some v.heap.size) :
    HP w (v5.setCell ⟨hb, 1, none⟩ (.slice a5 n5 c5)) hb g cc sn V ss ds t x a5 n5 c5 := by
  have o : Only (fun y => (Value.slice da dn dc).ownBlock = some y) v v5 := only_of_grown hgr (fun k e => e)
  have hl := h.hl
  have hlt : ∀ y, (Value.slice da dn dc).ownBlock = some y → w.heap.size + 2 ≤ y := fun y e => (World.ownsRow.lt h.drow y e).1
  exact ⟨(h.bel.trans (o.below h.bel.size (fun y hy e => by have := hlt y e; omega))).setCell (p := ⟨hb, 1, none⟩) (by show w.heap.size ≤ hb; omega) _, (h.k4.to o (fun e => by have := hlt _ e; omega)).setOther (by omega) _ _, (h.kh.to o (fun e => h.hd e)).set 1 _, fun e => ⟨_, h.push t x p hx ho hgr ha e⟩, (own_at ho).1, (own_at ho).2.1, (own_at ho).2.2.1⟩
set_option maxHeartbeats 4000000 in
set_option maxRecDepth 100000 in
theorem deedWrite_any (u : World) (x o hb g cc sn : Nat) (V : List Value) (ss : List (List Int)) (da : Option Addr) (dn dc : Nat) (U : List (Int × Value)) (ds : List DW) (s : Bool) (t : Int) (p : Option Addr) (n c : Nat) (bs : List Int) (w : World) (h : HD u w hb g cc sn V ss da dn dc U ds) (hx : Bk w x 135 [.pointer (some ⟨hb, 0, none⟩)]) (ho : Bk w o 101 [.bool s, .int .i64 t, .slice p n c])
    (hxn : (Value.slice da dn dc).ownBlock ≠ some x ∧ x ≠ hb) (hon : (Value.slice da dn dc).ownBlock ≠ some o ∧ o ≠ hb) (hby : By w (fun y => y < u.heap.size) (.slice p n c) bs) :
    Calls Tryz.prog 151 #[.pointer (some ⟨x, 0, none⟩), .pointer (some ⟨o, 0, none⟩)] w fun e w' => DwP u hb g cc sn V ss ds t bs e w' := by
  have H0 := hid h
  obtain ⟨hn1, hn2, ⟨hn3, hn4, hn5⟩, hn6, hn7, hn8, hn9⟩ := h.lens
  have HN := hid (And.intro hn1 hn2)
  have hdl : ds.length ≤ 1048576 := by omega
  have hbl := hby.len
  have HBL := hid hbl.1
  have hnc := hbl.2
  have HSX : Hid (∀ v, Only (fun y => (Value.slice da dn dc).ownBlock = some y ∨ y = hb) w v → v.cell? ⟨x, 0, none⟩ = some (.pointer (some ⟨hb, 0, none⟩)) ∧ v.cell? ⟨o, 1, none⟩ = some (.int .i64 t) ∧ v.cell? ⟨o, 2, none⟩ = some (.slice p n c)) := fun v ov =>
    ⟨(hx.to ov (fun e => e.elim hxn.1 hxn.2)).cell (j := 0) rfl, (ho.to ov (fun e => e.elim hon.1 hon.2)).cell (j := 1) rfl, (ho.to ov (fun e => e.elim hon.1 hon.2)).cell (j := 2) rfl⟩
  have HS0 := hid (HSX.out w.drew (only_of_below (below_drew _) _))
  have HW2 : Hid (Below w.heap.size w ((w.alloc (.cells #[.int .i64 t, .slice p n c] 99)).drew)) := bt7 (below_new (Below.refl _ _)) (below_drew _)
  have H2 := hid (h.below HW2.out)
  have BY2 := hid (hby.below HW2.out)
  have KN : Hid (Bk ((w.alloc (.cells #[.int .i64 t, .slice p n c] 99)).drew) w.heap.size 99 [.int .i64 t, .slice p n c]) := (Bk.new w 99 [.int .i64 t, .slice p n c]).below (below_drew _)
  have HBS : Hid (u.heap.size + 2 ≤ ((w.alloc (.cells #[.int .i64 t, .slice p n c] 99)).drew).heap.size) := by have h1 := H2.out.kh.lt; have h2 := h.hl; show _ ≤ _; omega
  have hlt : hb < w.heap.size := h.kh.lt
  have S2 := hid (HSX.out _ (only_of_below HW2.out _))
  have HIF := hid (dwr_iff h.ok t bs)
  have KX := hid hx
  have KO := hid ho
  have HNX := hid (And.intro hxn hon)
  clear h hx ho hby hxn hon hn1 hn2 hbl
  obtain ⟨⟨c1, c2⟩, f1, -, -⟩ := H0.out.cells
  have c3 := H2.out.cells.1.2
  have f3 := H2.out.cells.2.1
  go_enter Tryz.func151, Tryz.ntmps151
  go_wp2_with fail
  go_cut [] (fun wr => ∃ a5 n5 c5, Hid (HP u wr hb g cc sn V ss ds t bs a5 n5 c5) ∧ Hid (Only (fun y => (Value.slice da dn dc).ownBlock = some y ∨ y = hb) w wr))
  case first =>
    refine wp_region_noPanic ?_
    refine wp_region_held_drew (S := (fun v => v.cell? ⟨x, 0, none⟩ = some (.pointer (some ⟨hb, 0, none⟩)) ∧ v.cell? ⟨o, 1, none⟩ = some (.int .i64 t) ∧ v.cell? ⟨o, 2, none⟩ = some (.slice p n c))) (by kernel_rfl) HS0.out (fun hHeld => ?_)
    simp only [List.size_toArray, List.length_cons, List.length_nil, Array.replicate_succ, Array.replicate_zero, Nat.reduceAdd, List.push_toArray, List.nil_append, List.cons_append]
    refine wpAnyH_take (i := 0) (v := (.pointer (some ⟨hb, 0, none⟩))) rfl (by kernel_rfl) (by kernel_rfl) (by kernel_rfl) (fun _ _ _ h => h) (Or.inl ⟨by rfl, ?_⟩) (by assumption) ?_
    · intro w hSw
      (try dsimp only at hSw)
      go_simp
    try simp only [List.getElem_toArray]
    try simp only [List.getElem_cons_succ]
    try simp only [List.getElem_cons_zero]
    try simp only [Act.put]
    try simp only [List.setIfInBounds_toArray]
    try simp only [List.set_cons_succ]
    try simp only [List.set_cons_zero]
    refine wpAnyH_take (i := 1) (v := (.pointer (some ⟨hb, 0, none⟩))) rfl (by kernel_rfl) (by kernel_rfl) (by kernel_rfl) (fun _ _ _ h => h) (Or.inl ⟨by rfl, ?_⟩) (by assumption) ?_
    · intro w hSw
      (try dsimp only at hSw)
      go_simp
    try simp only [List.getElem_toArray]
    try simp only [List.getElem_cons_succ]
    try simp only [List.getElem_cons_zero]
    try simp only [Act.put]
    try simp only [List.setIfInBounds_toArray]
    try simp only [List.set_cons_succ]
    try simp only [List.set_cons_zero]
    refine wpAnyH_take (i := 2) (v := (.pointer (some ⟨hb, 0, none⟩))) rfl (by kernel_rfl) (by kernel_rfl) (by kernel_rfl) (fun _ _ _ h => h) (Or.inl ⟨by rfl, ?_⟩) (by assumption) ?_
    · intro w hSw
      (try dsimp only at hSw)
      go_simp
    try simp only [List.getElem_toArray]
    try simp only [List.getElem_cons_succ]
    try simp only [List.getElem_cons_zero]
    try simp only [Act.put]
    try simp only [List.setIfInBounds_toArray]
    try simp only [List.set_cons_succ]
    try simp only [List.set_cons_zero]
    refine wpAnyH_take (i := 3) (v := (.pointer (some ⟨hb, 1, none⟩))) rfl (by kernel_rfl) (by kernel_rfl) (by kernel_rfl) (fun _ _ _ h => h) (Or.inl ⟨by rfl, ?_⟩) (by assumption) ?_
    · intro w hSw
      (try dsimp only at hSw)
      go_simp
    try simp only [List.getElem_toArray]
    try simp only [List.getElem_cons_succ]
    try simp only [List.getElem_cons_zero]
    try simp only [Act.put]
    try simp only [List.setIfInBounds_toArray]
    try simp only [List.set_cons_succ]
    try simp only [List.set_cons_zero]
    refine wpAnyH_take (i := 5) (v := (.pointer (some ⟨o, 1, none⟩))) rfl (by kernel_rfl) (by kernel_rfl) (by kernel_rfl) (fun _ _ _ h => h) (Or.inl ⟨by rfl, ?_⟩) (by assumption) ?_
    · intro w hSw
      (try dsimp only at hSw)
      go_simp
    try simp only [List.getElem_toArray]
    try simp only [List.getElem_cons_succ]
    try simp only [List.getElem_cons_zero]
    try simp only [Act.put]
    try simp only [List.setIfInBounds_toArray]
    try simp only [List.set_cons_succ]
    try simp only [List.set_cons_zero]
    refine wpAnyH_take (i := 6) (v := (.agg #[.int .i64 t, .slice p n c])) rfl (by kernel_rfl) (by kernel_rfl) (by kernel_rfl) (fun _ _ _ h => h) (Or.inl ⟨by rfl, ?_⟩) (by assumption) ?_
    · intro w hSw
      (try dsimp only at hSw)
      go_simp
    try simp only [List.getElem_toArray]
    try simp only [List.getElem_cons_succ]
    try simp only [List.getElem_cons_zero]
    try simp only [Act.put]
    try simp only [List.setIfInBounds_toArray]
    try simp only [List.set_cons_succ]
    try simp only [List.set_cons_zero]
    refine wpAnyH_ready (rs := [4, 7]) (by kernel_rfl) (by simp) ?_
    refine AllReadyH.cons rfl (fun K1 hK => ?_) (AllReadyH.cons rfl (fun K1 hK => ?_) AllReadyH.nil)
    · go_simp
      refine hK.out _ _ ?_ (fun hHeld => ?_)
      · assumption
      clear hK K1
      try simp only [List.getElem_toArray]
      try simp only [List.getElem_cons_succ]
      try simp only [List.getElem_cons_zero]
      try simp only [Act.put]
      try simp only [List.setIfInBounds_toArray]
      try simp only [List.set_cons_succ]
      try simp only [List.set_cons_zero]
      refine wpAnyH_ready (rs := [7]) (by kernel_rfl) (by simp) ?_
      refine AllReadyH.cons rfl (fun K1 hK => ?_) AllReadyH.nil
      go_simp
      refine hK.out _ _ ?_ (fun hHeld => ?_)
      · exact S2.out
      clear hK K1
      try simp only [List.getElem_toArray]
      try simp only [List.getElem_cons_succ]
      try simp only [List.getElem_cons_zero]
      try simp only [Act.put]
      try simp only [List.setIfInBounds_toArray]
      try simp only [List.set_cons_succ]
      try simp only [List.set_cons_zero]
      refine wpAnyH_ready (rs := [8]) (by kernel_rfl) (by simp) ?_
      refine AllReadyH.cons rfl (fun K1 hK => ?_) AllReadyH.nil
      refine step_append_g rfl _ _ _ rfl (u.heap.size + 2) 99 (.agg #[.int .i64 0, .slice none 0 0]) 2 32 Tryz.underlying23 infoWriteI rfl (by decide) (by decide) (.slice da dn dc) ds.length (wcs U) rfl H2.out.drow w.heap.size [.int .i64 t, .slice p n c] rfl (rw_two KN.out) rfl (by intro y hy; simp at hy; rcases hy with rfl | rfl <;> rfl) hdl HBS.out hb 1 (.slice da dn dc) H2.out.cells.1.2 H2.out.cells.2.1 H2.out.hd ?_
      intro a5 n5 c5 w5 hO5 hg5 ha5 hc5 hf5
      have P5 := hid (H2.out.append t bs (.slice p n c) BY2.out hO5 hg5 ha5)
      have o5 : Only (fun y => (Value.slice da dn dc).ownBlock = some y ∨ y = hb) (w.alloc (.cells #[.int .i64 t, .slice p n c] 99)).drew w5 := only_of_grown hg5 (fun k e => .inl e)
      have S5 := HSX.out _ ((only_of_below HW2.out _).trans o5)
      have S6 := HSX.out (w5.setCell ⟨hb, 1, none⟩ (.slice a5 n5 c5)) (((only_of_below HW2.out _).trans o5).trans (only_set (R := fun y => (Value.slice da dn dc).ownBlock = some y ∨ y = hb) (.inr rfl) _))
      refine hK.out _ _ ?_ (fun hHeld => ?_)
      · exact S5
      clear hK K1
      try simp only [List.getElem_toArray]
      try simp only [List.getElem_cons_succ]
      try simp only [List.getElem_cons_zero]
      try simp only [Act.put]
      try simp only [List.setIfInBounds_toArray]
      try simp only [List.set_cons_succ]
      try simp only [List.set_cons_zero]
      refine wpAnyH_take (i := 9) (v := (.pointer (some ⟨hb, 0, none⟩))) rfl (by kernel_rfl) (by kernel_rfl) (by kernel_rfl) (fun _ _ _ h => h) (Or.inl ⟨by rfl, ?_⟩) (by assumption) ?_
      · intro w hSw
        (try dsimp only at hSw)
        go_simp
      try simp only [List.getElem_toArray]
      try simp only [List.getElem_cons_succ]
      try simp only [List.getElem_cons_zero]
      try simp only [Act.put]
      try simp only [List.setIfInBounds_toArray]
      try simp only [List.set_cons_succ]
      try simp only [List.set_cons_zero]
      refine wpAnyH_take (i := 10) (v := (.pointer (some ⟨hb, 1, none⟩))) rfl (by kernel_rfl) (by kernel_rfl) (by kernel_rfl) (fun _ _ _ h => h) (Or.inl ⟨by rfl, ?_⟩) (by assumption) ?_
      · intro w hSw
        (try dsimp only at hSw)
        go_simp
      try simp only [List.getElem_toArray]
      try simp only [List.getElem_cons_succ]
      try simp only [List.getElem_cons_zero]
      try simp only [Act.put]
      try simp only [List.setIfInBounds_toArray]
      try simp only [List.set_cons_succ]
      try simp only [List.set_cons_zero]
      refine wpAnyH_ready (rs := [11]) (by kernel_rfl) (by simp) ?_
      refine AllReadyH.cons rfl (fun K1 hK => ?_) AllReadyH.nil
      go_simp
      refine hK.out _ _ ?_ (fun hHeld => ?_)
      · exact S6
      clear hK K1
      try simp only [List.getElem_toArray]
      try simp only [List.getElem_cons_succ]
      try simp only [List.getElem_cons_zero]
      try simp only [Act.put]
      try simp only [List.setIfInBounds_toArray]
      try simp only [List.set_cons_succ]
      try simp only [List.set_cons_zero]
      refine wpAnyH_done (by kernel_rfl) ?_ _
      refine NoPanic.normal ?_
      go_wp2_with fail
      go_meet
      exact ⟨a5, n5, c5, P5.out, ((only_of_below HW2.out _).trans o5).trans (only_set (R := fun y => (Value.slice da dn dc).ownBlock = some y ∨ y = hb) (.inr rfl) _)⟩
    · go_simp
      refine hK.out _ _ ?_ (fun hHeld => ?_)
      · exact S2.out
      clear hK K1
      try simp only [List.getElem_toArray]
      try simp only [List.getElem_cons_succ]
      try simp only [List.getElem_cons_zero]
      try simp only [Act.put]
      try simp only [List.setIfInBounds_toArray]
      try simp only [List.set_cons_succ]
      try simp only [List.set_cons_zero]
      refine wpAnyH_ready (rs := [4]) (by kernel_rfl) (by simp) ?_
      refine AllReadyH.cons rfl (fun K1 hK => ?_) AllReadyH.nil
      go_simp
      refine hK.out _ _ ?_ (fun hHeld => ?_)
      · assumption
      clear hK K1
      try simp only [List.getElem_toArray]
      try simp only [List.getElem_cons_succ]
      try simp only [List.getElem_cons_zero]
      try simp only [Act.put]
      try simp only [List.setIfInBounds_toArray]
      try simp only [List.set_cons_succ]
      try simp only [List.set_cons_zero]
      refine wpAnyH_ready (rs := [8]) (by kernel_rfl) (by simp) ?_
      refine AllReadyH.cons rfl (fun K1 hK => ?_) AllReadyH.nil
      refine step_append_g rfl _ _ _ rfl (u.heap.size + 2) 99 (.agg #[.int .i64 0, .slice none 0 0]) 2 32 Tryz.underlying23 infoWriteI rfl (by decide) (by decide) (.slice da dn dc) ds.length (wcs U) rfl H2.out.drow w.heap.size [.int .i64 t, .slice p n c] rfl (rw_two KN.out) rfl (by intro y hy; simp at hy; rcases hy with rfl | rfl <;> rfl) hdl HBS.out hb 1 (.slice da dn dc) H2.out.cells.1.2 H2.out.cells.2.1 H2.out.hd ?_
      intro a5 n5 c5 w5 hO5 hg5 ha5 hc5 hf5
      have P5 := hid (H2.out.append t bs (.slice p n c) BY2.out hO5 hg5 ha5)
      have o5 : Only (fun y => (Value.slice da dn dc).ownBlock = some y ∨ y = hb) (w.alloc (.cells #[.int .i64 t, .slice p n c] 99)).drew w5 := only_of_grown hg5 (fun k e => .inl e)
      have S5 := HSX.out _ ((only_of_below HW2.out _).trans o5)
      have S6 := HSX.out (w5.setCell ⟨hb, 1, none⟩ (.slice a5 n5 c5)) (((only_of_below HW2.out _).trans o5).trans (only_set (R := fun y => (Value.slice da dn dc).ownBlock = some y ∨ y = hb) (.inr rfl) _))
      refine hK.out _ _ ?_ (fun hHeld => ?_)
      · exact S5
      clear hK K1
      try simp only [List.getElem_toArray]
      try simp only [List.getElem_cons_succ]
      try simp only [List.getElem_cons_zero]
      try simp only [Act.put]
      try simp only [List.setIfInBounds_toArray]
      try simp only [List.set_cons_succ]
      try simp only [List.set_cons_zero]
      refine wpAnyH_take (i := 9) (v := (.pointer (some ⟨hb, 0, none⟩))) rfl (by kernel_rfl) (by kernel_rfl) (by kernel_rfl) (fun _ _ _ h => h) (Or.inl ⟨by rfl, ?_⟩) (by assumption) ?_
      · intro w hSw
        (try dsimp only at hSw)
        go_simp
      try simp only [List.getElem_toArray]
      try simp only [List.getElem_cons_succ]
      try simp only [List.getElem_cons_zero]
      try simp only [Act.put]
      try simp only [List.setIfInBounds_toArray]
      try simp only [List.set_cons_succ]
      try simp only [List.set_cons_zero]
      refine wpAnyH_take (i := 10) (v := (.pointer (some ⟨hb, 1, none⟩))) rfl (by kernel_rfl) (by kernel_rfl) (by kernel_rfl) (fun _ _ _ h => h) (Or.inl ⟨by rfl, ?_⟩) (by assumption) ?_
      · intro w hSw
        (try dsimp only at hSw)
        go_simp
      try simp only [List.getElem_toArray]
      try simp only [List.getElem_cons_succ]
      try simp only [List.getElem_cons_zero]
      try simp only [Act.put]
      try simp only [List.setIfInBounds_toArray]
      try simp only [List.set_cons_succ]
      try simp only [List.set_cons_zero]
      refine wpAnyH_ready (rs := [11]) (by kernel_rfl) (by simp) ?_
      refine AllReadyH.cons rfl (fun K1 hK => ?_) AllReadyH.nil
      go_simp
      refine hK.out _ _ ?_ (fun hHeld => ?_)
      · exact S6
      clear hK K1
      try simp only [List.getElem_toArray]
      try simp only [List.getElem_cons_succ]
      try simp only [List.getElem_cons_zero]
      try simp only [Act.put]
      try simp only [List.setIfInBounds_toArray]
      try simp only [List.set_cons_succ]
      try simp only [List.set_cons_zero]
      refine wpAnyH_done (by kernel_rfl) ?_ _
      refine NoPanic.normal ?_
      go_wp2_with fail
      go_meet
      exact ⟨a5, n5, c5, P5.out, ((only_of_below HW2.out _).trans o5).trans (only_set (R := fun y => (Value.slice da dn dc).ownBlock = some y ∨ y = hb) (.inr rfl) _)⟩
  case rest =>
    obtain ⟨a5, n5, c5, P5, O5⟩ := hcut
    clear H2 BY2 KN HBS S2 HS0 c1 c2 c3 f1 f3 HW2
    have HL5 := hid P5.out.len
    have hn5' := P5.out.len.2
    have HS3 : Hid (∀ v, Below wc.heap.size wc v → v.cell? ⟨x, 0, none⟩ = some (.pointer (some ⟨hb, 0, none⟩)) ∧ v.cell? ⟨o, 1, none⟩ = some (.int .i64 t) ∧ v.cell? ⟨o, 2, none⟩ = some (.slice p n c) ∧ v.cell? ⟨hb, 0, none⟩ = some (.slice (some ⟨g, 0, none⟩) sn cc) ∧ v.cell? ⟨hb, 1, none⟩ = some (.slice a5 n5 c5)) := fun v hv =>
      ⟨((KX.out.to O5.out (fun e => e.elim HNX.out.1.1 HNX.out.1.2)).below hv).cell (j := 0) rfl, ((KO.out.to O5.out (fun e => e.elim HNX.out.2.1 HNX.out.2.2)).below hv).cell (j := 1) rfl, ((KO.out.to O5.out (fun e => e.elim HNX.out.2.1 HNX.out.2.2)).below hv).cell (j := 2) rfl, (P5.out.kh.below hv).cell (j := 0) rfl, (P5.out.kh.below hv).cell (j := 1) rfl⟩
    have HS4 := hid (HS3.out wc.drew (below_drew _))
    have HSH : Hid (ss.length = sn) := HN.out.1.symm
    clear O5 KX KO HNX HSX
    by_cases q5 : n5 ≤ 500
    · have q5' : decide ((n5 : Int) ≤ 500) = true := decide_eq_true (by omega)
      have q6 : (n5 : Int) ≤ 500 := by omega
      have HV : Hid (dkOk (dwrD ⟨ss, ds⟩ t bs) = wrtOk sn (t, bs)) := by
        show _ = _
        rw [HIF.out]
        simp only [HSH.out]
        rw [decide_eq_true (show ds.length + 1 ≤ 500 by have := HL5.out.1; omega)]
        rfl
      have HWO := hid (fun v => writeOk_any t p n c bs sn v HBL.out (by omega))
      go_wp2_with fail
      refine wp_region_noPanic ?_
      refine wp_region_held_drew (S := (fun v => v.cell? ⟨x, 0, none⟩ = some (.pointer (some ⟨hb, 0, none⟩)) ∧ v.cell? ⟨o, 1, none⟩ = some (.int .i64 t) ∧ v.cell? ⟨o, 2, none⟩ = some (.slice p n c) ∧ v.cell? ⟨hb, 0, none⟩ = some (.slice (some ⟨g, 0, none⟩) sn cc) ∧ v.cell? ⟨hb, 1, none⟩ = some (.slice a5 n5 c5))) (by kernel_rfl) HS4.out (fun hHeld => ?_)
      simp only [List.size_toArray, List.length_cons, List.length_nil, Array.replicate_succ, Array.replicate_zero, Nat.reduceAdd, List.push_toArray, List.nil_append, List.cons_append]
      refine wpAnyH_take (i := 0) (v := (.pointer (some ⟨hb, 0, none⟩))) rfl (by kernel_rfl) (by kernel_rfl) (by kernel_rfl) (fun _ _ _ h => h) (Or.inl ⟨by rfl, ?_⟩) (by assumption) ?_
      · intro w hSw
        (try dsimp only at hSw)
        go_simp
      try simp only [List.getElem_toArray]
      try simp only [List.getElem_cons_succ]
      try simp only [List.getElem_cons_zero]
      try simp only [Act.put]
      try simp only [List.setIfInBounds_toArray]
      try simp only [List.set_cons_succ]
      try simp only [List.set_cons_zero]
      refine wpAnyH_take (i := 1) (v := (.pointer (some ⟨hb, 0, none⟩))) rfl (by kernel_rfl) (by kernel_rfl) (by kernel_rfl) (fun _ _ _ h => h) (Or.inl ⟨by rfl, ?_⟩) (by assumption) ?_
      · intro w hSw
        (try dsimp only at hSw)
        go_simp
      try simp only [List.getElem_toArray]
      try simp only [List.getElem_cons_succ]
      try simp only [List.getElem_cons_zero]
      try simp only [Act.put]
      try simp only [List.setIfInBounds_toArray]
      try simp only [List.set_cons_succ]
      try simp only [List.set_cons_zero]
      refine wpAnyH_take (i := 2) (v := (.pointer (some ⟨hb, 1, none⟩))) rfl (by kernel_rfl) (by kernel_rfl) (by kernel_rfl) (fun _ _ _ h => h) (Or.inl ⟨by rfl, ?_⟩) (by assumption) ?_
      · intro w hSw
        (try dsimp only at hSw)
        go_simp
      try simp only [List.getElem_toArray]
      try simp only [List.getElem_cons_succ]
      try simp only [List.getElem_cons_zero]
      try simp only [Act.put]
      try simp only [List.setIfInBounds_toArray]
      try simp only [List.set_cons_succ]
      try simp only [List.set_cons_zero]
      refine wpAnyH_take (i := 3) (v := (.slice a5 n5 c5)) rfl (by kernel_rfl) (by kernel_rfl) (by kernel_rfl) (fun _ _ _ h => h) (Or.inl ⟨by rfl, ?_⟩) (by assumption) ?_
      · intro w hSw
        (try dsimp only at hSw)
        go_simp
      try simp only [List.getElem_toArray]
      try simp only [List.getElem_cons_succ]
      try simp only [List.getElem_cons_zero]
      try simp only [Act.put]
      try simp only [List.setIfInBounds_toArray]
      try simp only [List.set_cons_succ]
      try simp only [List.set_cons_zero]
      refine wpAnyH_take (i := 4) (v := (.int .i64 (n5 : Int))) rfl (by kernel_rfl) (by kernel_rfl) (by kernel_rfl) (fun _ _ _ h => h) (Or.inl ⟨by rfl, ?_⟩) (by assumption) ?_
      · intro w hSw
        (try dsimp only at hSw)
        go_simp
      try simp only [List.getElem_toArray]
      try simp only [List.getElem_cons_succ]
      try simp only [List.getElem_cons_zero]
      try simp only [Act.put]
      try simp only [List.setIfInBounds_toArray]
      try simp only [List.set_cons_succ]
      try simp only [List.set_cons_zero]
      refine wpAnyH_take (i := 5) (v := (.bool true)) rfl (by kernel_rfl) (by kernel_rfl) (by kernel_rfl) (fun _ _ _ h => h) (Or.inl ⟨by rfl, ?_⟩) (by assumption) ?_
      · intro w hSw
        (try dsimp only at hSw)
        go_simp
      try simp only [List.getElem_toArray]
      try simp only [List.getElem_cons_succ]
      try simp only [List.getElem_cons_zero]
      try simp only [Act.put]
      try simp only [List.setIfInBounds_toArray]
      try simp only [List.set_cons_succ]
      try simp only [List.set_cons_zero]
      refine wpAnyH_take (i := 6) (v := (.bool true)) rfl (by kernel_rfl) (by kernel_rfl) (by kernel_rfl) (fun _ _ _ h => h) (Or.inl ⟨by rfl, ?_⟩) (by assumption) ?_
      · intro w hSw
        (try dsimp only at hSw)
        go_simp
      try simp only [List.getElem_toArray]
      try simp only [List.getElem_cons_succ]
      try simp only [List.getElem_cons_zero]
      try simp only [Act.put]
      try simp only [List.setIfInBounds_toArray]
      try simp only [List.set_cons_succ]
      try simp only [List.set_cons_zero]
      refine wpAnyH_take (i := 7) (v := (.pointer (some ⟨o, 1, none⟩))) rfl (by kernel_rfl) (by kernel_rfl) (by kernel_rfl) (fun _ _ _ h => h) (Or.inl ⟨by rfl, ?_⟩) (by assumption) ?_
      · intro w hSw
        (try dsimp only at hSw)
        go_simp
      try simp only [List.getElem_toArray]
      try simp only [List.getElem_cons_succ]
      try simp only [List.getElem_cons_zero]
      try simp only [Act.put]
      try simp only [List.setIfInBounds_toArray]
      try simp only [List.set_cons_succ]
      try simp only [List.set_cons_zero]
      refine wpAnyH_take (i := 8) (v := (.agg #[.int .i64 t, .slice p n c])) rfl (by kernel_rfl) (by kernel_rfl) (by kernel_rfl) (fun _ _ _ h => h) (Or.inl ⟨by rfl, ?_⟩) (by assumption) ?_
      · intro w hSw
        (try dsimp only at hSw)
        go_simp
      try simp only [List.getElem_toArray]
      try simp only [List.getElem_cons_succ]
      try simp only [List.getElem_cons_zero]
      try simp only [Act.put]
      try simp only [List.setIfInBounds_toArray]
      try simp only [List.set_cons_succ]
      try simp only [List.set_cons_zero]
      refine wpAnyH_take (i := 9) (v := (.pointer (some ⟨hb, 0, none⟩))) rfl (by kernel_rfl) (by kernel_rfl) (by kernel_rfl) (fun _ _ _ h => h) (Or.inl ⟨by rfl, ?_⟩) (by assumption) ?_
      · intro w hSw
        (try dsimp only at hSw)
        go_simp
      try simp only [List.getElem_toArray]
      try simp only [List.getElem_cons_succ]
      try simp only [List.getElem_cons_zero]
      try simp only [Act.put]
      try simp only [List.setIfInBounds_toArray]
      try simp only [List.set_cons_succ]
      try simp only [List.set_cons_zero]
      refine wpAnyH_take (i := 10) (v := (.pointer (some ⟨hb, 0, none⟩))) rfl (by kernel_rfl) (by kernel_rfl) (by kernel_rfl) (fun _ _ _ h => h) (Or.inl ⟨by rfl, ?_⟩) (by assumption) ?_
      · intro w hSw
        (try dsimp only at hSw)
        go_simp
      try simp only [List.getElem_toArray]
      try simp only [List.getElem_cons_succ]
      try simp only [List.getElem_cons_zero]
      try simp only [Act.put]
      try simp only [List.setIfInBounds_toArray]
      try simp only [List.set_cons_succ]
      try simp only [List.set_cons_zero]
      refine wpAnyH_take (i := 11) (v := (.pointer (some ⟨hb, 0, none⟩))) rfl (by kernel_rfl) (by kernel_rfl) (by kernel_rfl) (fun _ _ _ h => h) (Or.inl ⟨by rfl, ?_⟩) (by assumption) ?_
      · intro w hSw
        (try dsimp only at hSw)
        go_simp
      try simp only [List.getElem_toArray]
      try simp only [List.getElem_cons_succ]
      try simp only [List.getElem_cons_zero]
      try simp only [Act.put]
      try simp only [List.setIfInBounds_toArray]
      try simp only [List.set_cons_succ]
      try simp only [List.set_cons_zero]
      refine wpAnyH_take (i := 12) (v := (.slice (some ⟨g, 0, none⟩) sn cc)) rfl (by kernel_rfl) (by kernel_rfl) (by kernel_rfl) (fun _ _ _ h => h) (Or.inl ⟨by rfl, ?_⟩) (by assumption) ?_
      · intro w hSw
        (try dsimp only at hSw)
        go_simp
      try simp only [List.getElem_toArray]
      try simp only [List.getElem_cons_succ]
      try simp only [List.getElem_cons_zero]
      try simp only [Act.put]
      try simp only [List.setIfInBounds_toArray]
      try simp only [List.set_cons_succ]
      try simp only [List.set_cons_zero]
      refine wpAnyH_take (i := 13) (v := (.int .i64 (sn : Int))) rfl (by kernel_rfl) (by kernel_rfl) (by kernel_rfl) (fun _ _ _ h => h) (Or.inl ⟨by rfl, ?_⟩) (by assumption) ?_
      · intro w hSw
        (try dsimp only at hSw)
        go_simp
      try simp only [List.getElem_toArray]
      try simp only [List.getElem_cons_succ]
      try simp only [List.getElem_cons_zero]
      try simp only [Act.put]
      try simp only [List.setIfInBounds_toArray]
      try simp only [List.set_cons_succ]
      try simp only [List.set_cons_zero]
      refine wpAnyH_ready (rs := [14]) (by kernel_rfl) (by simp) ?_
      refine AllReadyH.cons rfl (fun K1 hK => ?_) AllReadyH.nil
      go_simp
      refine (HWO.out _).mono ?_
      rintro e w6 ⟨rfl, hb6⟩
      have B6 := hid (bt7 (below_drew wc) hb6)
      have P6 := hid (P5.out.below B6.out)
      have S6 := HS3.out _ B6.out
      clear hb6
      go_wp2_with fail
      refine hK.out _ _ ?_ (fun hHeld => ?_)
      · exact S6
      clear hK K1
      try simp only [List.getElem_toArray]
      try simp only [List.getElem_cons_succ]
      try simp only [List.getElem_cons_zero]
      try simp only [Act.put]
      try simp only [List.setIfInBounds_toArray]
      try simp only [List.set_cons_succ]
      try simp only [List.set_cons_zero]
      generalize hz : wrtOk sn (t, bs) = z at *
      have HZ := hid hz
      clear hz
      refine wpAnyH_take (i := 15) (v := (.bool z)) rfl (by kernel_rfl) (by kernel_rfl) (by kernel_rfl) (fun _ _ _ h => h) (Or.inl ⟨by rfl, ?_⟩) (by assumption) ?_
      · intro w hSw
        (try dsimp only at hSw)
        go_simp
      try simp only [List.getElem_toArray]
      try simp only [List.getElem_cons_succ]
      try simp only [List.getElem_cons_zero]
      try simp only [Act.put]
      try simp only [List.setIfInBounds_toArray]
      try simp only [List.set_cons_succ]
      try simp only [List.set_cons_zero]
      refine wpAnyH_take (i := 16) (v := (.bool z)) rfl (by kernel_rfl) (by kernel_rfl) (by kernel_rfl) (fun _ _ _ h => h) (Or.inl ⟨by rfl, ?_⟩) (by assumption) ?_
      · intro w hSw
        (try dsimp only at hSw)
        go_simp
      try simp only [List.getElem_toArray]
      try simp only [List.getElem_cons_succ]
      try simp only [List.getElem_cons_zero]
      try simp only [Act.put]
      try simp only [List.setIfInBounds_toArray]
      try simp only [List.set_cons_succ]
      try simp only [List.set_cons_zero]
      refine wpAnyH_done (by kernel_rfl) ?_ _
      refine NoPanic.normal ?_
      go_wp2
      go_ret
      cases z with
      | true =>
        obtain ⟨U6, h6⟩ := P6.out.good HV.out
        exact .inl ⟨HV.out, rfl, _, _, _, U6, h6⟩
      | false => exact .inr ⟨HV.out, rfl, P6.out.bel, P6.out.k4⟩
    · have q5' : decide ((n5 : Int) ≤ 500) = false := decide_eq_false (by omega)
      have q6 : ¬ (n5 : Int) ≤ 500 := by omega
      have HV : Hid (dkOk (dwrD ⟨ss, ds⟩ t bs) = false) := by
        show _ = _
        rw [HIF.out]
        rw [decide_eq_false (show ¬ ds.length + 1 ≤ 500 by have := HL5.out.1; omega)]
        rfl
      have P6 := hid (P5.out.below (below_drew wc))
      go_wp2_with fail
      refine wp_region_noPanic ?_
      refine wp_region_held_drew (S := (fun v => v.cell? ⟨x, 0, none⟩ = some (.pointer (some ⟨hb, 0, none⟩)) ∧ v.cell? ⟨o, 1, none⟩ = some (.int .i64 t) ∧ v.cell? ⟨o, 2, none⟩ = some (.slice p n c) ∧ v.cell? ⟨hb, 0, none⟩ = some (.slice (some ⟨g, 0, none⟩) sn cc) ∧ v.cell? ⟨hb, 1, none⟩ = some (.slice a5 n5 c5))) (by kernel_rfl) HS4.out (fun hHeld => ?_)
      simp only [List.size_toArray, List.length_cons, List.length_nil, Array.replicate_succ, Array.replicate_zero, Nat.reduceAdd, List.push_toArray, List.nil_append, List.cons_append]
      refine wpAnyH_take (i := 0) (v := (.pointer (some ⟨hb, 0, none⟩))) rfl (by kernel_rfl) (by kernel_rfl) (by kernel_rfl) (fun _ _ _ h => h) (Or.inl ⟨by rfl, ?_⟩) (by assumption) ?_
      · intro w hSw
        (try dsimp only at hSw)
        go_simp
      try simp only [List.getElem_toArray]
      try simp only [List.getElem_cons_succ]
      try simp only [List.getElem_cons_zero]
      try simp only [Act.put]
      try simp only [List.setIfInBounds_toArray]
      try simp only [List.set_cons_succ]
      try simp only [List.set_cons_zero]
      refine wpAnyH_take (i := 1) (v := (.pointer (some ⟨hb, 0, none⟩))) rfl (by kernel_rfl) (by kernel_rfl) (by kernel_rfl) (fun _ _ _ h => h) (Or.inl ⟨by rfl, ?_⟩) (by assumption) ?_
      · intro w hSw
        (try dsimp only at hSw)
        go_simp
      try simp only [List.getElem_toArray]
      try simp only [List.getElem_cons_succ]
      try simp only [List.getElem_cons_zero]
      try simp only [Act.put]
      try simp only [List.setIfInBounds_toArray]
      try simp only [List.set_cons_succ]
      try simp only [List.set_cons_zero]
      refine wpAnyH_take (i := 2) (v := (.pointer (some ⟨hb, 1, none⟩))) rfl (by kernel_rfl) (by kernel_rfl) (by kernel_rfl) (fun _ _ _ h => h) (Or.inl ⟨by rfl, ?_⟩) (by assumption) ?_
      · intro w hSw
        (try dsimp only at hSw)
        go_simp
      try simp only [List.getElem_toArray]
      try simp only [List.getElem_cons_succ]
      try simp only [List.getElem_cons_zero]
      try simp only [Act.put]
      try simp only [List.setIfInBounds_toArray]
      try simp only [List.set_cons_succ]
      try simp only [List.set_cons_zero]
      refine wpAnyH_take (i := 3) (v := (.slice a5 n5 c5)) rfl (by kernel_rfl) (by kernel_rfl) (by kernel_rfl) (fun _ _ _ h => h) (Or.inl ⟨by rfl, ?_⟩) (by assumption) ?_
      · intro w hSw
        (try dsimp only at hSw)
        go_simp
      try simp only [List.getElem_toArray]
      try simp only [List.getElem_cons_succ]
      try simp only [List.getElem_cons_zero]
      try simp only [Act.put]
      try simp only [List.setIfInBounds_toArray]
      try simp only [List.set_cons_succ]
      try simp only [List.set_cons_zero]
      refine wpAnyH_take (i := 4) (v := (.int .i64 (n5 : Int))) rfl (by kernel_rfl) (by kernel_rfl) (by kernel_rfl) (fun _ _ _ h => h) (Or.inl ⟨by rfl, ?_⟩) (by assumption) ?_
      · intro w hSw
        (try dsimp only at hSw)
        go_simp
      try simp only [List.getElem_toArray]
      try simp only [List.getElem_cons_succ]
      try simp only [List.getElem_cons_zero]
      try simp only [Act.put]
      try simp only [List.setIfInBounds_toArray]
      try simp only [List.set_cons_succ]
      try simp only [List.set_cons_zero]
      refine wpAnyH_take (i := 5) (v := (.bool false)) rfl (by kernel_rfl) (by kernel_rfl) (by kernel_rfl) (fun _ _ _ h => h) (Or.inl ⟨by rfl, ?_⟩) (by assumption) ?_
      · intro w hSw
        (try dsimp only at hSw)
        go_simp
      try simp only [List.getElem_toArray]
      try simp only [List.getElem_cons_succ]
      try simp only [List.getElem_cons_zero]
      try simp only [Act.put]
      try simp only [List.setIfInBounds_toArray]
      try simp only [List.set_cons_succ]
      try simp only [List.set_cons_zero]
      refine wpAnyH_take (i := 6) (v := (.bool false)) rfl (by kernel_rfl) (by kernel_rfl) (by kernel_rfl) (fun _ _ _ h => h) (Or.inl ⟨by rfl, ?_⟩) (by assumption) ?_
      · intro w hSw
        (try dsimp only at hSw)
        go_simp
      try simp only [List.getElem_toArray]
      try simp only [List.getElem_cons_succ]
      try simp only [List.getElem_cons_zero]
      try simp only [Act.put]
      try simp only [List.setIfInBounds_toArray]
      try simp only [List.set_cons_succ]
      try simp only [List.set_cons_zero]
      refine take_noO (i := 7) rfl (by kernel_rfl) (by kernel_rfl) (by kernel_rfl) (fun _ _ _ h => h) (by rfl) (by assumption) ?_
      try simp only [List.getElem_toArray]
      try simp only [List.getElem_cons_succ]
      try simp only [List.getElem_cons_zero]
      try simp only [Act.put]
      try simp only [List.setIfInBounds_toArray]
      try simp only [List.set_cons_succ]
      try simp only [List.set_cons_zero]
      refine take_noO (i := 8) rfl (by kernel_rfl) (by kernel_rfl) (by kernel_rfl) (fun _ _ _ h => h) (by rfl) (by assumption) ?_
      try simp only [List.getElem_toArray]
      try simp only [List.getElem_cons_succ]
      try simp only [List.getElem_cons_zero]
      try simp only [Act.put]
      try simp only [List.setIfInBounds_toArray]
      try simp only [List.set_cons_succ]
      try simp only [List.set_cons_zero]
      refine take_noO (i := 9) rfl (by kernel_rfl) (by kernel_rfl) (by kernel_rfl) (fun _ _ _ h => h) (by rfl) (by assumption) ?_
      try simp only [List.getElem_toArray]
      try simp only [List.getElem_cons_succ]
      try simp only [List.getElem_cons_zero]
      try simp only [Act.put]
      try simp only [List.setIfInBounds_toArray]
      try simp only [List.set_cons_succ]
      try simp only [List.set_cons_zero]
      refine take_noO (i := 10) rfl (by kernel_rfl) (by kernel_rfl) (by kernel_rfl) (fun _ _ _ h => h) (by rfl) (by assumption) ?_
      try simp only [List.getElem_toArray]
      try simp only [List.getElem_cons_succ]
      try simp only [List.getElem_cons_zero]
      try simp only [Act.put]
      try simp only [List.setIfInBounds_toArray]
      try simp only [List.set_cons_succ]
      try simp only [List.set_cons_zero]
      refine take_noO (i := 11) rfl (by kernel_rfl) (by kernel_rfl) (by kernel_rfl) (fun _ _ _ h => h) (by rfl) (by assumption) ?_
      try simp only [List.getElem_toArray]
      try simp only [List.getElem_cons_succ]
      try simp only [List.getElem_cons_zero]
      try simp only [Act.put]
      try simp only [List.setIfInBounds_toArray]
      try simp only [List.set_cons_succ]
      try simp only [List.set_cons_zero]
      refine take_noO (i := 12) rfl (by kernel_rfl) (by kernel_rfl) (by kernel_rfl) (fun _ _ _ h => h) (by rfl) (by assumption) ?_
      try simp only [List.getElem_toArray]
      try simp only [List.getElem_cons_succ]
      try simp only [List.getElem_cons_zero]
      try simp only [Act.put]
      try simp only [List.setIfInBounds_toArray]
      try simp only [List.set_cons_succ]
      try simp only [List.set_cons_zero]
      refine take_noO (i := 13) rfl (by kernel_rfl) (by kernel_rfl) (by kernel_rfl) (fun _ _ _ h => h) (by rfl) (by assumption) ?_
      try simp only [List.getElem_toArray]
      try simp only [List.getElem_cons_succ]
      try simp only [List.getElem_cons_zero]
      try simp only [Act.put]
      try simp only [List.setIfInBounds_toArray]
      try simp only [List.set_cons_succ]
      try simp only [List.set_cons_zero]
      refine take_noO (i := 14) rfl (by kernel_rfl) (by kernel_rfl) (by kernel_rfl) (fun _ _ _ h => h) (by rfl) (by assumption) ?_
      try simp only [List.getElem_toArray]
      try simp only [List.getElem_cons_succ]
      try simp only [List.getElem_cons_zero]
      try simp only [Act.put]
      try simp only [List.setIfInBounds_toArray]
      try simp only [List.set_cons_succ]
      try simp only [List.set_cons_zero]
      refine wpAnyH_take (i := 15) (v := (.bool false)) rfl (by kernel_rfl) (by kernel_rfl) (by kernel_rfl) (fun _ _ _ h => h) (Or.inl ⟨by rfl, ?_⟩) (by assumption) ?_
      · intro w hSw
        (try dsimp only at hSw)
        go_simp
      try simp only [List.getElem_toArray]
      try simp only [List.getElem_cons_succ]
      try simp only [List.getElem_cons_zero]
      try simp only [Act.put]
      try simp only [List.setIfInBounds_toArray]
      try simp only [List.set_cons_succ]
      try simp only [List.set_cons_zero]
      refine wpAnyH_take (i := 16) (v := (.bool false)) rfl (by kernel_rfl) (by kernel_rfl) (by kernel_rfl) (fun _ _ _ h => h) (Or.inl ⟨by rfl, ?_⟩) (by assumption) ?_
      · intro w hSw
        (try dsimp only at hSw)
        go_simp
      try simp only [List.getElem_toArray]
      try simp only [List.getElem_cons_succ]
      try simp only [List.getElem_cons_zero]
      try simp only [Act.put]
      try simp only [List.setIfInBounds_toArray]
      try simp only [List.set_cons_succ]
      try simp only [List.set_cons_zero]
      refine wpAnyH_done (by kernel_rfl) ?_ _
      refine NoPanic.normal ?_
      go_wp2
      go_ret
      exact .inr ⟨HV.out, rfl, P6.out.bel, P6.out.k4⟩
open Go.RowKit
set_option linter.unusedVariables false
theorem HD.make {w v : World} {hb g cc sn : Nat} {V : List Value} {ss : List (List Int)} {da : Option Addr} {dn dc : Nat} {U : List (Int × Value)} {ds : List DW} {y0 y1 : Value} (bel : Below w.heap.size w v) (k4 : Bk v (w.heap.size + 1) 25 [.slice none 0 0, .slice none 0 0]) (kh : Bk v hb 25 [y0, y1])
    (srow : v.ownsRow (w.heap.size + 2) 130 1 (.slice (some ⟨g, 0, none⟩) sn cc) sn V) (vl : V.length = sn) (sl : ss.length = sn) (sby : ∀ i, i < sn → By v (fun y => y < w.heap.size) (uAt V i) (shAt ss i))
    (drow : v.ownsRow (w.heap.size + 2) 99 2 (.slice da dn dc) ds.length (wcs U)) (ul : U.length = ds.length) (dby : ∀ i, i < ds.length → (xAt U i).1 = (dwAt ds i).1 ∧ By v (fun y => y < w.heap.size) (xAt U i).2 (dwAt ds i).2)
    (ap : (Value.slice da dn dc).ownBlock ≠ some g) (hg : hb ≠ g) (hd : (Value.slice da dn dc).ownBlock ≠ some hb) (hl : w.heap.size + 2 ≤ hb) (ok : dkOk ⟨ss, ds⟩ = true) :
    HD w ((v.setCell ⟨hb, 0, none⟩ (.slice (some ⟨g, 0, none⟩) sn cc)).setCell ⟨hb, 1, none⟩ (.slice da dn dc)) hb g cc sn V ss da dn dc U ds := by
  have o : Only (fun y => y = hb) v ((v.setCell ⟨hb, 0, none⟩ (.slice (some ⟨g, 0, none⟩) sn cc)).setCell ⟨hb, 1, none⟩ (.slice da dn dc)) := (only_set (R := fun y => y = hb) rfl _).trans (only_set (R := fun y => y = hb) rfl _)
  have hgl := (World.ownsRow.lt srow g rfl).1
  exact ⟨(bel.setCell (p := ⟨hb, 0, none⟩) (by show w.heap.size ≤ hb; omega) _).setCell (p := ⟨hb, 1, none⟩) (by show w.heap.size ≤ hb; omega) _, k4.to o (by omega), (kh.set 0 _).set 1 _, ⟨own_kept srow o (fun y e e2 => (by cases e; exact hg e2.symm)), vl, sl, fun i hi => (sby i hi).to o (fun y hy _ e => by omega), fun h => (by have h' : g < w.heap.size := h; omega)⟩, own_kept drow o (fun y e e2 => hd (e2 ▸ e)), ul, fun i hi => ⟨(dby i hi).1, (dby i hi).2.to o (fun y hy _ e => by omega)⟩, ap, hg, hd, hl, ok⟩
theorem wcs_one {w : World} {S : Nat → Prop} {U : List (Int × Value)} {ds : List DW} (hl : U.length = ds.length) (h : ∀ i, i < ds.length → (xAt U i).1 = (dwAt ds i).1 ∧ By w S (xAt U i).2 (dwAt ds i).2) : ∀ u ∈ wcs U, u.oneCell' = true := by
  intro u hu
  obtain ⟨i, hi, rfl⟩ := List.mem_iff_getElem.1 hu
  rw [wcs_length] at hi
  have hq := wcs_at U (i / 2) (by omega)
  obtain ⟨a, c, e⟩ := (h (i / 2) (by omega)).2.1.sliceOf
  have h2 : i = i / 2 * 2 ∨ i = i / 2 * 2 + 1 := by omega
  rcases h2 with e2 | e2
  · rw [← e2] at hq
    have := List.getElem?_eq_some_iff.1 hq.1
    rw [this.2]; rfl
  · rw [← e2] at hq
    have := List.getElem?_eq_some_iff.1 hq.2
    rw [this.2, e]; rfl
theorem deedOf_sync (hb : Nat) (t : Int) (p : Option Addr) (n c : Nat) (w : World) :
    Calls Tryz.prog 86 #[.pointer (some ⟨hb, 0, none⟩), .agg #[.bool true, .int .i64 t, .slice p n c]] w fun e w' => e = .returned (.func (.func 149) #[] #[.pointer (some ⟨w.heap.size, 0, none⟩)]) ∧ (w.alloc (.cells #[.pointer (some ⟨hb, 0, none⟩)] 135)).alloc (.cells #[.bool true, .int .i64 t, .slice p n c] 101) = w' := by
  have := deedOf_any hb true t p n c w
  rwa [if_pos rfl] at this
theorem deedOf_write (hb : Nat) (t : Int) (p : Option Addr) (n c : Nat) (w : World) :
    Calls Tryz.prog 86 #[.pointer (some ⟨hb, 0, none⟩), .agg #[.bool false, .int .i64 t, .slice p n c]] w fun e w' => e = .returned (.func (.func 151) #[] #[.pointer (some ⟨w.heap.size, 0, none⟩), .pointer (some ⟨w.heap.size + 1, 0, none⟩)]) ∧ (w.alloc (.cells #[.pointer (some ⟨hb, 0, none⟩)] 135)).alloc (.cells #[.bool false, .int .i64 t, .slice p n c] 101) = w' := by
  have := deedOf_any hb false t p n c w
  rwa [if_neg (by decide)] at this
set_option maxHeartbeats 8000000 in
set_option maxRecDepth 100000 in
theorem implDoOps_any (S E : Nat → Prop) (sa : Option Addr) (sn sc : Nat) (da : Option Addr) (dn dc : Nat) (d : DK) (a : Option Addr) (n c : Nat) (l : List OW) (w : World) (h : Dk w S sa sn sc da dn dc d) (hsm : smallD d) (h1 : sn ≤ 1048576) (h2 : dn ≤ 1048576) (hl : Opr w E (.slice a n c) l) :
    Calls Tryz.prog 38 #[.agg #[.slice sa sn sc, .slice da dn dc], .slice a n c] w fun e w' => DkPost1 (doV d l) w e w' := by
  have HH : Hid (Dk w (fun y => y < w.heap.size) sa sn sc da dn dc d) := h.mono (fun _ _ h => h)
  have HL : Hid (Opr w (fun y => y < w.heap.size) (.slice a n c) l) := hl.mono (fun _ _ h => h)
  have HLN := hid hl.len.1
  have hlc := hl.len.2
  have hsc := h.hs.len.2
  have hdc := h.hd.len.2
  have HNS := hid h.hs.len.1
  have HND := hid h.hd.len.1
  have HB0 : Hid (Below w.heap.size w ((w.alloc (.cells #[.slice sa sn sc, .slice da dn dc] 25)).alloc (.cells #[.slice none 0 0, .slice none 0 0] 25))) := below_new (below_new (Below.refl _ _))
  have K0 := hid ((Bk.new w 25 [.slice sa sn sc, .slice da dn dc]).alloc (.cells #[.slice none 0 0, .slice none 0 0] 25))
  have K1 : Hid (Bk ((w.alloc (.cells #[.slice sa sn sc, .slice da dn dc] 25)).alloc (.cells #[.slice none 0 0, .slice none 0 0] 25)) (w.heap.size + 1) 25 [.slice none 0 0, .slice none 0 0]) := by
    have := Bk.new (w.alloc (.cells #[.slice sa sn sc, .slice da dn dc] 25)) 25 [.slice none 0 0, .slice none 0 0]
    show Bk _ _ _ _
    simpa using this
  have HOK := hid (implDiskOk_any S sa sn sc da dn dc d _ (h.below HB0.out))
  have hnot : ∀ (x : Bool) (w : World), (Op.unary .not (.bool x)).run Tryz.prog w = .ok (.bool (!x)) w := fun _ _ => rfl
  clear h hl hsm
  go_enter Tryz.func38, Tryz.ntmps38
  go_wp2_with fail
  refine HOK.out.mono ?_
  generalize (w.alloc (.cells #[.slice sa sn sc, .slice da dn dc] 25)).alloc (.cells #[.slice none 0 0, .slice none 0 0] 25) = W0 at *
  rintro e w1 ⟨rfl, hb⟩
  have J0 := hid (K0.out.below hb)
  have J1 := hid (K1.out.below hb)
  have B1 := hid (bt7 HB0.out hb)
  clear hb HB0 K0 K1 HOK
  cases hok : dkOk d with
  | false =>
    have HF := hid (doV_no (l := l) hok)
    have r0 := J1.out.cell (j := 0) rfl
    have r1 := J1.out.cell (j := 1) rfl
    have f0 := J1.out.free 0
    have f1 := J1.out.free 1
    go_wp2
    try simp only [Exit.inBlock, Exit.then]
    refine bodyPost_ret (v := .agg #[.slice none 0 0, .slice none 0 0]) ?_ rfl ?_
    · exact results_dsk rfl _ _ _ rfl (by go_simp) (by go_simp)
    · rw [HF.out]
      exact em_fin B1.out _ _
  | true =>
    have HF := hid (doV_yes (l := l) hok)
    have HOK := hid hok
    have hsz := dk_smallO hok
    have hsn : 2 ≤ sn ∧ sn ≤ 400 ∧ dn ≤ 500 := by rw [HNS.out, HND.out]; exact ⟨hsz.2.2.2, hsz.2.1, hsz.2.2.1⟩
    clear hok hsz
    obtain ⟨V, hVl, hVr, hVb⟩ := HH.out.hs
    obtain ⟨Uu, hUl, hUr, hUb⟩ := HH.out.hd
    rw [← HNS.out] at hVr
    rw [← HND.out] at hUr
    obtain ⟨b, off, rfl, -⟩ := Rw.at hVr (by omega)
    have HCS : Hid (∀ v, Below w.heap.size w v → Calls Tryz.prog 84 #[.slice (some ⟨b, off, none⟩) sn sc] v fun e w' => ∃ a c', e = .returned (.slice a sn c') ∧ w'.ownsRow v.heap.size 130 1 (.slice a sn c') sn V ∧ Below v.heap.size v w') := fun v hv =>
      cloneS_any _ b off sn sc V v (hVr.below hv) (by rw [hVl, HNS.out]) (one_slices hVl hVb) h1
    have HCW : Hid (∀ v, Below w.heap.size w v → Calls Tryz.prog 85 #[.slice da dn dc] v fun e w' => ∃ a' c', e = .returned (.slice a' dn c') ∧ w'.ownsRow v.heap.size 99 2 (.slice a' dn c') dn (wcs Uu) ∧ Below v.heap.size v w') := fun v hv =>
      cloneW_any _ da dn dc (wcs Uu) v (hUr.below hv) (by rw [wcs_length, hUl, HND.out]) (wcs_one hUl hUb) h2
    have HMK : Hid (∀ (v : World) (hb g cc : Nat) (da' : Option Addr) (dc' : Nat) (y0 y1 : Value), Below w.heap.size w v → Bk v (w.heap.size + 1) 25 [.slice none 0 0, .slice none 0 0] → Bk v hb 25 [y0, y1] → v.ownsRow (w.heap.size + 2) 130 1 (.slice (some ⟨g, 0, none⟩) sn cc) sn V → v.ownsRow (w.heap.size + 2) 99 2 (.slice da' dn dc') dn (wcs Uu) → (Value.slice da' dn dc').ownBlock ≠ some g → hb ≠ g → (Value.slice da' dn dc').ownBlock ≠ some hb → w.heap.size + 2 ≤ hb →
        HD w ((v.setCell ⟨hb, 0, none⟩ (.slice (some ⟨g, 0, none⟩) sn cc)).setCell ⟨hb, 1, none⟩ (.slice da' dn dc')) hb g cc sn V d.sh da' dn dc' Uu d.dw) := by
      intro v hb g cc da' dc' y0 y1 q1 q2 q3 q4 q5 q6 q7 q8 q9
      exact HD.make q1 q2 q3 q4 (by rw [hVl, HNS.out]) HNS.out.symm (fun i hi => (hVb i (by rw [← HNS.out]; exact hi)).below q1) (by rw [← HND.out]; exact q5) hUl (fun i hi => ⟨(hUb i hi).1, (hUb i hi).2.below q1⟩) q6 q7 q8 q9 HOK.out
    clear hVl hVr hVb hUl hUr hUb
    have B1d := hid (bt7 B1.out (below_drew w1))
    have J0d := hid (J0.out.below (below_drew w1))
    have J1d := hid (J1.out.below (below_drew w1))
    have SZ1 : Hid (w.heap.size + 2 ≤ w1.heap.size) := J1.out.lt
    have d0 := J0d.out.cell (j := 0) rfl
    have d1 := J0d.out.cell (j := 1) rfl
    have HS0 : Hid (w1.drew.cell? ⟨w.heap.size, 0, none⟩ = some (.slice (some ⟨b, off, none⟩) sn sc) ∧ w1.drew.cell? ⟨w.heap.size, 1, none⟩ = some (.slice da dn dc)) := ⟨d0, d1⟩
    have HSX : Hid (∀ v, Below w1.drew.heap.size w1.drew v → v.cell? ⟨w.heap.size, 0, none⟩ = some (.slice (some ⟨b, off, none⟩) sn sc) ∧ v.cell? ⟨w.heap.size, 1, none⟩ = some (.slice da dn dc)) := fun v hv => ⟨(J0d.out.below hv).cell (j := 0) rfl, (J0d.out.below hv).cell (j := 1) rfl⟩
    clear d0 d1
    go_wp2_with fail
    go_cut [5] (fun p wr => ∃ (hb g cc : Nat) (V' : List Value) (da' : Option Addr) (dn' dc' : Nat) (U' : List (Int × Value)), p = .pointer (some ⟨hb, 0, none⟩) ∧ Hid (HD w wr hb g cc sn V' d.sh da' dn' dc' U' d.dw))
    case first =>
      refine wp_region_noPanic ?_
      refine wp_region_held_drew (S := (fun v => v.cell? ⟨w.heap.size, 0, none⟩ = some (.slice (some ⟨b, off, none⟩) sn sc) ∧ v.cell? ⟨w.heap.size, 1, none⟩ = some (.slice da dn dc))) (by kernel_rfl) HS0.out (fun hHeld => ?_)
      simp only [List.size_toArray, List.length_cons, List.length_nil, Array.replicate_succ, Array.replicate_zero, Nat.reduceAdd, List.push_toArray, List.nil_append, List.cons_append]
      refine wpAnyH_take (i := 0) (v := (.pointer (some ⟨w.heap.size, 0, none⟩))) rfl (by kernel_rfl) (by kernel_rfl) (by kernel_rfl) (fun _ _ _ h => h) (Or.inl ⟨by rfl, ?_⟩) (by assumption) ?_
      · intro w hSw
        (try dsimp only at hSw)
        go_simp
      try simp only [List.getElem_toArray]
      try simp only [List.getElem_cons_succ]
      try simp only [List.getElem_cons_zero]
      try simp only [Act.put]
      try simp only [List.setIfInBounds_toArray]
      try simp only [List.set_cons_succ]
      try simp only [List.set_cons_zero]
      refine wpAnyH_take (i := 1) (v := (.slice (some ⟨b, off, none⟩) sn sc)) rfl (by kernel_rfl) (by kernel_rfl) (by kernel_rfl) (fun _ _ _ h => h) (Or.inl ⟨by rfl, ?_⟩) (by assumption) ?_
      · intro w hSw
        (try dsimp only at hSw)
        go_simp
      try simp only [List.getElem_toArray]
      try simp only [List.getElem_cons_succ]
      try simp only [List.getElem_cons_zero]
      try simp only [Act.put]
      try simp only [List.setIfInBounds_toArray]
      try simp only [List.set_cons_succ]
      try simp only [List.set_cons_zero]
      refine wpAnyH_take (i := 3) (v := (.pointer (some ⟨w.heap.size, 1, none⟩))) rfl (by kernel_rfl) (by kernel_rfl) (by kernel_rfl) (fun _ _ _ h => h) (Or.inl ⟨by rfl, ?_⟩) (by assumption) ?_
      · intro w hSw
        (try dsimp only at hSw)
        go_simp
      try simp only [List.getElem_toArray]
      try simp only [List.getElem_cons_succ]
      try simp only [List.getElem_cons_zero]
      try simp only [Act.put]
      try simp only [List.setIfInBounds_toArray]
      try simp only [List.set_cons_succ]
      try simp only [List.set_cons_zero]
      refine wpAnyH_take (i := 4) (v := (.slice da dn dc)) rfl (by kernel_rfl) (by kernel_rfl) (by kernel_rfl) (fun _ _ _ h => h) (Or.inl ⟨by rfl, ?_⟩) (by assumption) ?_
      · intro w hSw
        (try dsimp only at hSw)
        go_simp
      try simp only [List.getElem_toArray]
      try simp only [List.getElem_cons_succ]
      try simp only [List.getElem_cons_zero]
      try simp only [Act.put]
      try simp only [List.setIfInBounds_toArray]
      try simp only [List.set_cons_succ]
      try simp only [List.set_cons_zero]
      refine wpAnyH_ready (rs := [2, 7]) (by kernel_rfl) (by simp) ?_
      refine AllReadyH.cons rfl (fun K1 hK => ?_) (AllReadyH.cons rfl (fun K1 hK => ?_) AllReadyH.nil)
      · go_simp
        refine (HCS.out _ (bt7 B1d.out (Below.refl _ _))).mono ?_
        rintro e w2 ⟨ga, cc, rfl, hrow, hb2⟩
        have hcc := (own_at hrow).2.1
        have hcc' := (own_at hrow).2.2.1
        obtain ⟨g, rfl, hg1, hg2, -⟩ := (own_at hrow).2.2.2 (by omega)
        have X2 := hid (bt7 (Below.refl _ _) hb2)
        have R2 := hid hrow
        have Z2 := hid hb2
        have G2 := hid (And.intro hg1 hg2)
        have S2 := HSX.out _ X2.out
        clear hrow hb2 hg1 hg2
        go_wp2_with fail
        refine hK.out _ _ ?_ (fun hHeld => ?_)
        · exact S2
        clear hK K1
        try simp only [List.getElem_toArray]
        try simp only [List.getElem_cons_succ]
        try simp only [List.getElem_cons_zero]
        try simp only [Act.put]
        try simp only [List.setIfInBounds_toArray]
        try simp only [List.set_cons_succ]
        try simp only [List.set_cons_zero]
        refine wpAnyH_ready (rs := [5, 7]) (by kernel_rfl) (by simp) ?_
        refine AllReadyH.cons rfl (fun K1 hK => ?_) (AllReadyH.cons rfl (fun K1 hK => ?_) AllReadyH.nil)
        · go_simp
          refine (HCW.out _ (bt7 B1d.out X2.out)).mono ?_
          rintro e w3 ⟨ea, ec, rfl, hrow, hb3⟩
          have hec := (own_at hrow).2.1
          have hec' := (own_at hrow).2.2.1
          have X3 := hid (bt7 X2.out hb3)
          have R3 := hid hrow
          have Z3 := hid hb3
          have S3 := HSX.out _ X3.out
          clear hrow hb3
          go_wp2_with fail
          refine hK.out _ _ ?_ (fun hHeld => ?_)
          · exact S3
          clear hK K1
          try simp only [List.getElem_toArray]
          try simp only [List.getElem_cons_succ]
          try simp only [List.getElem_cons_zero]
          try simp only [Act.put]
          try simp only [List.setIfInBounds_toArray]
          try simp only [List.set_cons_succ]
          try simp only [List.set_cons_zero]
          refine wpAnyH_take (i := 6) (v := (.agg #[.slice (some ⟨g, 0, none⟩) sn cc, .slice ea dn ec])) rfl (by kernel_rfl) (by kernel_rfl) (by kernel_rfl) (fun _ _ _ h => h) (Or.inl ⟨by rfl, ?_⟩) (by assumption) ?_
          · intro w hSw
            (try dsimp only at hSw)
            go_simp
          try simp only [List.getElem_toArray]
          try simp only [List.getElem_cons_succ]
          try simp only [List.getElem_cons_zero]
          try simp only [Act.put]
          try simp only [List.setIfInBounds_toArray]
          try simp only [List.set_cons_succ]
          try simp only [List.set_cons_zero]
          refine wpAnyH_ready (rs := [7]) (by kernel_rfl) (by simp) ?_
          refine AllReadyH.cons rfl (fun K1 hK => ?_) AllReadyH.nil
          have N3 := hid (below_new (o := .cells #[.slice none 0 0, .slice none 0 0] 25) (w := w3) (Below.refl _ _))
          have S4 := HSX.out _ (bt7 X3.out N3.out)
          go_simp
          refine hK.out _ _ ?_ (fun hHeld => ?_)
          · exact S4
          clear hK K1
          try simp only [List.getElem_toArray]
          try simp only [List.getElem_cons_succ]
          try simp only [List.getElem_cons_zero]
          try simp only [Act.put]
          try simp only [List.setIfInBounds_toArray]
          try simp only [List.set_cons_succ]
          try simp only [List.set_cons_zero]
          refine wpAnyH_ready (rs := [8]) (by kernel_rfl) (by simp) ?_
          refine AllReadyH.cons rfl (fun K1 hK => ?_) AllReadyH.nil
          have F3 := hid (HMK.out (w3.alloc (.cells #[.slice none 0 0, .slice none 0 0] 25)) w3.heap.size g cc ea ec _ _ (bt7 (bt7 B1d.out X3.out) N3.out) ((J1d.out.below X3.out).below N3.out) (Bk.new w3 25 [.slice none 0 0, .slice none 0 0]) (ownD_base (own_kept R2.out (only_of_below (bt7 Z3.out N3.out) (fun _ => False)) (fun _ _ h => h)) SZ1.out) (ownD_base (own_kept R3.out (only_of_below N3.out (fun _ => False)) (fun _ _ h => h)) (Nat.le_trans SZ1.out X2.out.size)) (fun e => by have h1 := (World.ownsRow.lt R3.out g e).1; have h2 := G2.out.2; omega) (by have h1 := G2.out.2; have h2 := Z3.out.size; omega) (fun e => by have h1 := (World.ownsRow.lt R3.out _ e).2; omega) (Nat.le_trans SZ1.out X3.out.size))
          have F4 : Hid (HD w (w3.alloc (.cells #[.slice (some ⟨g, 0, none⟩) sn cc, .slice ea dn ec] 25)) w3.heap.size g cc sn V d.sh ea dn ec Uu d.dw) := by
            have := F3.out
            rw [World.setCell_alloc_at _ _ _ _ _ rfl, World.setCell_alloc_at _ _ _ _ _ rfl] at this
            exact this
          have S5 := HSX.out _ (bt7 X3.out (below_new (o := .cells #[.slice (some ⟨g, 0, none⟩) sn cc, .slice ea dn ec] 25) (w := w3) (Below.refl _ _)))
          go_simp
          try go_wp2_with fail
          refine hK.out _ _ ?_ (fun hHeld => ?_)
          · exact S5
          clear hK K1
          try simp only [List.getElem_toArray]
          try simp only [List.getElem_cons_succ]
          try simp only [List.getElem_cons_zero]
          try simp only [Act.put]
          try simp only [List.setIfInBounds_toArray]
          try simp only [List.set_cons_succ]
          try simp only [List.set_cons_zero]
          refine wpAnyH_done (by kernel_rfl) ?_ _
          refine NoPanic.normal ?_
          go_wp2_with fail
          go_meet
          exact ⟨_, g, cc, V, ea, dn, ec, Uu, rfl, F4.out⟩
        · have N2 := hid (below_new (o := .cells #[.slice none 0 0, .slice none 0 0] 25) (w := w2) (Below.refl _ _))
          have S4 := HSX.out _ (bt7 X2.out N2.out)
          have KN := hid (Bk.new w2 25 [.slice none 0 0, .slice none 0 0])
          go_simp
          refine hK.out _ _ ?_ (fun hHeld => ?_)
          · exact S4
          clear hK K1
          try simp only [List.getElem_toArray]
          try simp only [List.getElem_cons_succ]
          try simp only [List.getElem_cons_zero]
          try simp only [Act.put]
          try simp only [List.setIfInBounds_toArray]
          try simp only [List.set_cons_succ]
          try simp only [List.set_cons_zero]
          refine wpAnyH_ready (rs := [5]) (by kernel_rfl) (by simp) ?_
          refine AllReadyH.cons rfl (fun K1 hK => ?_) AllReadyH.nil
          go_simp
          refine (HCW.out _ (bt7 B1d.out (bt7 X2.out N2.out))).mono ?_
          rintro e w3 ⟨ea, ec, rfl, hrow, hb3⟩
          have hec := (own_at hrow).2.1
          have hec' := (own_at hrow).2.2.1
          have X3 := hid (bt7 (bt7 X2.out N2.out) hb3)
          have R3 := hid hrow
          have Z3 := hid hb3
          have S3 := HSX.out _ X3.out
          clear hrow hb3
          go_wp2_with fail
          refine hK.out _ _ ?_ (fun hHeld => ?_)
          · exact S3
          clear hK K1
          try simp only [List.getElem_toArray]
          try simp only [List.getElem_cons_succ]
          try simp only [List.getElem_cons_zero]
          try simp only [Act.put]
          try simp only [List.setIfInBounds_toArray]
          try simp only [List.set_cons_succ]
          try simp only [List.set_cons_zero]
          refine wpAnyH_take (i := 6) (v := (.agg #[.slice (some ⟨g, 0, none⟩) sn cc, .slice ea dn ec])) rfl (by kernel_rfl) (by kernel_rfl) (by kernel_rfl) (fun _ _ _ h => h) (Or.inl ⟨by rfl, ?_⟩) (by assumption) ?_
          · intro w hSw
            (try dsimp only at hSw)
            go_simp
          try simp only [List.getElem_toArray]
          try simp only [List.getElem_cons_succ]
          try simp only [List.getElem_cons_zero]
          try simp only [Act.put]
          try simp only [List.setIfInBounds_toArray]
          try simp only [List.set_cons_succ]
          try simp only [List.set_cons_zero]
          refine wpAnyH_ready (rs := [8]) (by kernel_rfl) (by simp) ?_
          refine AllReadyH.cons rfl (fun K1 hK => ?_) AllReadyH.nil
          have KB := hid (KN.out.below Z3.out)
          have F4 := hid (HMK.out w3 w2.heap.size g cc ea ec _ _ (bt7 B1d.out X3.out) (J1d.out.below X3.out) KB.out (ownD_base (own_kept R2.out (only_of_below (bt7 N2.out Z3.out) (fun _ => False)) (fun _ _ h => h)) SZ1.out) (ownD_base R3.out (Nat.le_trans SZ1.out (Nat.le_trans X2.out.size N2.out.size))) (fun e => by have h1 := (World.ownsRow.lt R3.out g e).1; have h2 := G2.out.2; have h3 := N2.out.size; omega) (by have h1 := G2.out.2; omega) (fun e => by have h1 := (World.ownsRow.lt R3.out _ e).1; have h2 := KN.out.lt; omega) (Nat.le_trans SZ1.out X2.out.size))
          have t0 := KB.out.cell (j := 0) rfl
          have t1 := KB.out.cell (j := 1) rfl
          have t2 := KB.out.free 0
          have t3 := KB.out.free 1
          have hwb : ¬ w.heap.size = w2.heap.size := by have h1 := SZ1.out; have h2 := X2.out.size; have h3 : w1.drew.heap.size = w1.heap.size := rfl; omega
          have hwb' : ¬ w2.heap.size = w.heap.size := fun e => hwb e.symm
          obtain ⟨s30, s31⟩ := S3
          go_simp
          try go_wp2_with fail
          refine hK.out _ _ ?_ (fun hHeld => ?_)
          · refine ⟨?_, ?_⟩ <;> go_simp
          clear hK K1
          try simp only [List.getElem_toArray]
          try simp only [List.getElem_cons_succ]
          try simp only [List.getElem_cons_zero]
          try simp only [Act.put]
          try simp only [List.setIfInBounds_toArray]
          try simp only [List.set_cons_succ]
          try simp only [List.set_cons_zero]
          refine wpAnyH_done (by kernel_rfl) ?_ _
          refine NoPanic.normal ?_
          go_wp2_with fail
          go_meet
          exact ⟨_, g, cc, V, ea, dn, ec, Uu, rfl, F4.out⟩
      · have N1 : Hid (Below w1.drew.heap.size w1.drew ((w1.alloc (.cells #[.slice none 0 0, .slice none 0 0] 25)).drew)) := (below_new (o := .cells #[.slice none 0 0, .slice none 0 0] 25) (w := w1.drew) (Below.refl _ _))
        have S4 := HSX.out _ N1.out
        have KN : Hid (Bk ((w1.alloc (.cells #[.slice none 0 0, .slice none 0 0] 25)).drew) w1.heap.size 25 [.slice none 0 0, .slice none 0 0]) := (Bk.new w1 25 [.slice none 0 0, .slice none 0 0]).below (below_drew _)
        go_simp
        refine hK.out _ _ ?_ (fun hHeld => ?_)
        · exact S4
        clear hK K1
        try simp only [List.getElem_toArray]
        try simp only [List.getElem_cons_succ]
        try simp only [List.getElem_cons_zero]
        try simp only [Act.put]
        try simp only [List.setIfInBounds_toArray]
        try simp only [List.set_cons_succ]
        try simp only [List.set_cons_zero]
        refine wpAnyH_ready (rs := [2]) (by kernel_rfl) (by simp) ?_
        refine AllReadyH.cons rfl (fun K1 hK => ?_) AllReadyH.nil
        go_simp
        refine (HCS.out _ (bt7 B1d.out N1.out)).mono ?_
        rintro e w2 ⟨ga, cc, rfl, hrow, hb2⟩
        have hcc := (own_at hrow).2.1
        have hcc' := (own_at hrow).2.2.1
        obtain ⟨g, rfl, hg1, hg2, -⟩ := (own_at hrow).2.2.2 (by omega)
        have X2 := hid (bt7 N1.out hb2)
        have R2 := hid hrow
        have Z2 := hid hb2
        have G2 := hid (And.intro hg1 hg2)
        have S2 := HSX.out _ X2.out
        clear hrow hb2 hg1 hg2
        go_wp2_with fail
        refine hK.out _ _ ?_ (fun hHeld => ?_)
        · exact S2
        clear hK K1
        try simp only [List.getElem_toArray]
        try simp only [List.getElem_cons_succ]
        try simp only [List.getElem_cons_zero]
        try simp only [Act.put]
        try simp only [List.setIfInBounds_toArray]
        try simp only [List.set_cons_succ]
        try simp only [List.set_cons_zero]
        refine wpAnyH_ready (rs := [5]) (by kernel_rfl) (by simp) ?_
        refine AllReadyH.cons rfl (fun K1 hK => ?_) AllReadyH.nil
        go_simp
        refine (HCW.out _ (bt7 B1d.out X2.out)).mono ?_
        rintro e w3 ⟨ea, ec, rfl, hrow, hb3⟩
        have hec := (own_at hrow).2.1
        have hec' := (own_at hrow).2.2.1
        have X3 := hid (bt7 X2.out hb3)
        have R3 := hid hrow
        have Z3 := hid hb3
        have S3 := HSX.out _ X3.out
        clear hrow hb3
        go_wp2_with fail
        refine hK.out _ _ ?_ (fun hHeld => ?_)
        · exact S3
        clear hK K1
        try simp only [List.getElem_toArray]
        try simp only [List.getElem_cons_succ]
        try simp only [List.getElem_cons_zero]
        try simp only [Act.put]
        try simp only [List.setIfInBounds_toArray]
        try simp only [List.set_cons_succ]
        try simp only [List.set_cons_zero]
        refine wpAnyH_take (i := 6) (v := (.agg #[.slice (some ⟨g, 0, none⟩) sn cc, .slice ea dn ec])) rfl (by kernel_rfl) (by kernel_rfl) (by kernel_rfl) (fun _ _ _ h => h) (Or.inl ⟨by rfl, ?_⟩) (by assumption) ?_
        · intro w hSw
          (try dsimp only at hSw)
          go_simp
        try simp only [List.getElem_toArray]
        try simp only [List.getElem_cons_succ]
        try simp only [List.getElem_cons_zero]
        try simp only [Act.put]
        try simp only [List.setIfInBounds_toArray]
        try simp only [List.set_cons_succ]
        try simp only [List.set_cons_zero]
        refine wpAnyH_ready (rs := [8]) (by kernel_rfl) (by simp) ?_
        refine AllReadyH.cons rfl (fun K1 hK => ?_) AllReadyH.nil
        have KB := hid ((KN.out.below Z2.out).below Z3.out)
        have F4 := hid (HMK.out w3 w1.heap.size g cc ea ec _ _ (bt7 B1d.out X3.out) (J1d.out.below X3.out) KB.out (ownD_base (own_kept R2.out (only_of_below Z3.out (fun _ => False)) (fun _ _ h => h)) (Nat.le_trans SZ1.out N1.out.size)) (ownD_base R3.out (Nat.le_trans SZ1.out X2.out.size)) (fun e => by have h1 := (World.ownsRow.lt R3.out g e).1; have h2 := G2.out.2; omega) (by have h1 := G2.out.1; have h2 := KN.out.lt; omega) (fun e => by have h1 := (World.ownsRow.lt R3.out _ e).1; have h2 := KN.out.lt; have h3 := Z2.out.size; omega) SZ1.out)
        have t0 := KB.out.cell (j := 0) rfl
        have t1 := KB.out.cell (j := 1) rfl
        have t2 := KB.out.free 0
        have t3 := KB.out.free 1
        have hwb : ¬ w.heap.size = w1.heap.size := by have h1 := SZ1.out; omega
        have hwb' : ¬ w1.heap.size = w.heap.size := fun e => hwb e.symm
        obtain ⟨s30, s31⟩ := S3
        go_simp
        try go_wp2_with fail
        refine hK.out _ _ ?_ (fun hHeld => ?_)
        · refine ⟨?_, ?_⟩ <;> go_simp
        clear hK K1
        try simp only [List.getElem_toArray]
        try simp only [List.getElem_cons_succ]
        try simp only [List.getElem_cons_zero]
        try simp only [Act.put]
        try simp only [List.setIfInBounds_toArray]
        try simp only [List.set_cons_succ]
        try simp only [List.set_cons_zero]
        refine wpAnyH_done (by kernel_rfl) ?_ _
        refine NoPanic.normal ?_
        go_wp2_with fail
        go_meet
        exact ⟨_, g, cc, V, ea, dn, ec, Uu, rfl, F4.out⟩
    case rest =>
      obtain ⟨hb, g, cc, V', da', dn', dc', U', rfl, H0⟩ := hcut
      clear J0 J1 J0d J1d B1 B1d HS0 HSX HCS HCW HMK SZ1
      go_wp2_with fail
      generalize wc = w4 at *
      go_loopw [22] (fun i wr => ∃ (k : Nat) (V' : List Value) (da' : Option Addr) (dn' dc' : Nat) (U' : List (Int × Value)) (d' : DK), k ≤ n ∧ i = .int .i64 k ∧ Hid (HD w wr hb g cc sn V' d'.sh da' dn' dc' U' d'.dw) ∧ Hid (opS l d = opS (l.drop k) d')) (fun i _ => n - (intOf i).toNat)
      case atStart => exact ⟨0, V', da', dn', dc', U', d, Nat.zero_le _, rfl, H0.out, rfl⟩
      case round =>
        clear H0 HOK
        obtain ⟨k, V', da', dn', dc', U', d', hk, rfl, HH', DD⟩ := hrel
        by_cases hlt : k < n
        · have hlt' : (k : Int) < (n : Int) := by omega
          have hkl : k < l.length := by rw [← HLN.out]; exact hlt
          obtain ⟨eb, eo, ha, -, -, hcell⟩ := (HL.out.below HH'.out.bel).at (by omega)
          subst ha
          obtain ⟨xp, xn, xc, m0, m1, m2, hby⟩ := hcell k hlt
          clear hcell
          have HSN := hid (fun h => opS_none l hkl (d := d') h)
          have HSS := hid (fun d'' h => opS_some l hkl (d := d') (d' := d'') h)
          have HET : Hid (op1 d' (oAt l k) = if (oAt l k).1 = true then some (dsV d') else dwrV d' (oAt l k).2.1 (oAt l k).2.2) := rfl
          have hxc := hby.len.2
          clear hkl
          generalize oAt l k = cur at *
          obtain ⟨cs, ct, cb⟩ := cur
          have hbe := below_new (o := .cells #[.bool cs, .int .i64 ct, .slice xp xn xc] 101) (w := wr) (Below.refl _ _)
          have H3 := hid (HH'.out.below hbe)
          have Y3 := hid (hby.below hbe)
          have KE := hid (Bk.new wr 101 [.bool cs, .int .i64 ct, .slice xp xn xc])
          have q0 := KE.out.cell (j := 0) rfl
          have q1 := KE.out.cell (j := 1) rfl
          have q2 := KE.out.cell (j := 2) rfl
          clear hbe hby HH'
          cases cs with
          | true =>
            have HT2 : Hid (op1 d' (true, ct, cb) = some (dsV d')) := by show _ = _; rw [HET.out]; rfl
            have D4 : Hid (opS l d = opS (l.drop (k + 1)) (dsV d')) := DD.out.trans (HSS.out _ HT2.out)
            clear HSN HSS HET
            go_wp2_with fail
            refine (deedOf_sync hb ct xp xn xc _).mono ?_
            generalize wr.alloc (.cells #[.bool true, .int .i64 ct, .slice xp xn xc] 101) = v1 at *
            rintro e v2 ⟨rfl, rfl⟩
            have B2 := hid (below_new (o := .cells #[.pointer (some ⟨hb, 0, none⟩)] 135) (w := v1) (below_new (o := .cells #[.bool true, .int .i64 ct, .slice xp xn xc] 101) (Below.refl _ _)))
            have H4 := hid (H3.out.below B2.out)
            have KP := hid ((Bk.new v1 135 [.pointer (some ⟨hb, 0, none⟩)]).alloc (.cells #[.bool true, .int .i64 ct, .slice xp xn xc] 101))
            have G4 : Hid (g < v1.heap.size ∧ hb < v1.heap.size) := ⟨(World.ownsRow.lt H3.out.sh.row g rfl).2, H3.out.kh.lt⟩
            clear H3 KE q0 q1 q2 m0 m1 m2
            go_wp2_with fail
            refine (deedSync_any w v1.heap.size hb g cc sn V' _ da' dn' dc' U' _ _ H4.out KP.out (by have := G4.out; omega) (by have := G4.out; omega)).mono ?_
            rintro e v3 ⟨rfl, V3, h5⟩
            have H5 := hid h5
            clear h5 H4 KP G4 B2
            go_wp2
            go_roundw
            case rel => exact ⟨k + 1, V3, none, 0, 0, [], dsV d', by omega, by go_num, H5.out, D4.out⟩
            case measure => simp [intOf]; omega
          | false =>
            have HT2 : Hid (op1 d' (false, ct, cb) = dwrV d' ct cb) := by show _ = _; rw [HET.out]; rfl
            have HDW : Hid (dwrV d' ct cb = if dkOk (dwrD d' ct cb) = true then some (dwrD d' ct cb) else none) := rfl
            clear HET
            go_wp2_with fail
            refine (deedOf_write hb ct xp xn xc _).mono ?_
            generalize wr.alloc (.cells #[.bool false, .int .i64 ct, .slice xp xn xc] 101) = v1 at *
            rintro e v2 ⟨rfl, rfl⟩
            have B2 := hid (below_new (o := .cells #[.pointer (some ⟨hb, 0, none⟩)] 135) (w := v1) (below_new (o := .cells #[.bool false, .int .i64 ct, .slice xp xn xc] 101) (Below.refl _ _)))
            have H4 := hid (H3.out.below B2.out)
            have Y4 := hid (Y3.out.below B2.out)
            have KP := hid ((Bk.new v1 135 [.pointer (some ⟨hb, 0, none⟩)]).alloc (.cells #[.bool false, .int .i64 ct, .slice xp xn xc] 101))
            have KO : Hid (Bk ((v1.alloc (.cells #[.pointer (some ⟨hb, 0, none⟩)] 135)).alloc (.cells #[.bool false, .int .i64 ct, .slice xp xn xc] 101)) (v1.heap.size + 1) 101 [.bool false, .int .i64 ct, .slice xp xn xc]) := by
              have := Bk.new (v1.alloc (.cells #[.pointer (some ⟨hb, 0, none⟩)] 135)) 101 [.bool false, .int .i64 ct, .slice xp xn xc]
              show Bk _ _ _ _
              simpa using this
            have G4 : Hid ((∀ y, (Value.slice da' dn' dc').ownBlock = some y → y < v1.heap.size) ∧ hb < v1.heap.size) := ⟨fun y e => (World.ownsRow.lt H3.out.drow y e).2, H3.out.kh.lt⟩
            clear H3 KE q0 q1 q2 m0 m1 m2 Y3
            go_wp2_with fail
            refine (deedWrite_any w v1.heap.size (v1.heap.size + 1) hb g cc sn V' _ da' dn' dc' U' _ false ct xp xn xc cb _ H4.out KP.out KO.out ⟨fun e => by have := G4.out.1 _ e; omega, by have := G4.out.2; omega⟩ ⟨fun e => by have := G4.out.1 _ e; omega, by have := G4.out.2; omega⟩ Y4.out).mono ?_
            rintro e v3 hpo
            rcases hpo with ⟨hg, rfl, a5, n5, c5, U5, h5⟩ | ⟨hg, rfl, hb5, hk5⟩
            · have D4 : Hid (opS l d = opS (l.drop (k + 1)) (dwrD d' ct cb)) := DD.out.trans (HSS.out _ (HT2.out.trans (by rw [HDW.out]; exact if_pos hg)))
              have H5 := hid h5
              clear h5 H4 KP KO G4 B2 Y4 hg HSN HSS
              go_wp2
              go_roundw
              case rel => exact ⟨k + 1, V', a5, n5, c5, U5, dwrD d' ct cb, by omega, by go_num, H5.out, D4.out⟩
              case measure => simp [intOf]; omega
            · have HR2 : Hid (doV d l = emD) := by
                show _ = _
                rw [HF.out, DD.out, HSN.out (HT2.out.trans (by rw [HDW.out]; exact if_neg (by rw [show dkOk (dwrD d' ct cb) = false from hg]; decide)))]
                rfl
              have B5 := hid hb5
              have r0 := hk5.cell (j := 0) rfl
              have r1 := hk5.cell (j := 1) rfl
              have f0 := hk5.free 0
              have f1 := hk5.free 1
              clear hb5 hk5 H4 KP KO G4 B2 Y4 hg HSN HSS
              go_wp2
              try simp only [Exit.inBlock, Exit.then]
              refine bodyPost_ret (v := .agg #[.slice none 0 0, .slice none 0 0]) ?_ rfl ?_
              · exact results_dsk rfl _ _ _ rfl (by go_simp) (by go_simp)
              · rw [HR2.out]
                exact em_fin B5.out _ _
        · have HR2 : Hid (doV d l = d') := by
            show _ = _
            rw [HF.out, DD.out, List.drop_eq_nil_of_le (by rw [← HLN.out]; omega)]
            rfl
          have HSM := hid (dk_smallO HH'.out.ok)
          obtain ⟨ln1, ln2, ⟨ln3, ln4, ln5⟩, ln6, ln7, ln8, ln9⟩ := HH'.out.lens
          clear HF DD ln1 ln2
          obtain ⟨⟨c0, c1⟩, -, -, -⟩ := HH'.out.cells
          go_wp2_with fail
          refine (copyDisk_any (fun _ => True) _ _ _ _ _ _ _ _ HH'.out.dk HSM.out.1 (by omega) (by omega)).mono ?_
          rintro e w5 ⟨za, zn, zc, ya, yn, yc, V5, U5, rfl, hO, hb5⟩
          have J5 := hid (HH'.out.k4.below hb5)
          have B5 := hid (bt7 HH'.out.bel hb5)
          have SZ : Hid (w.heap.size + 2 ≤ wr.heap.size) := HH'.out.k4.lt
          have HO := hid hO
          clear hO hb5 c0 c1 HH'
          have r0 := J5.out.cell (j := 0) rfl
          have r1 := J5.out.cell (j := 1) rfl
          have f0 := J5.out.free 0
          have f1 := J5.out.free 1
          go_wp2
          try simp only [Exit.inBlock, Exit.then]
          refine bodyPost_ret (v := .agg #[.slice za zn zc, .slice ya yn yc]) ?_ rfl ?_
          · exact results_dsk rfl _ _ _ rfl (by go_simp) (by go_simp)
          · rw [HR2.out]
            have O1 : Only (fun y => y = w.heap.size + 1) w5 ((w5.setCell ⟨w.heap.size + 1, 0, none⟩ (.slice za zn zc)).setCell ⟨w.heap.size + 1, 1, none⟩ (.slice ya yn yc)) := (only_set (R := fun y => y = w.heap.size + 1) rfl _).trans (only_set (R := fun y => y = w.heap.size + 1) rfl _)
            have hz := SZ.out
            exact ⟨_, _, _, _, _, _, _, _, rfl, (HO.out.to O1 (fun y e e2 => by have := (HO.out.lt e).1; omega)).base (by omega), (B5.out.setCell (p := ⟨w.heap.size + 1, 0, none⟩) (Nat.le_succ _) _).setCell (p := ⟨w.heap.size + 1, 1, none⟩) (Nat.le_succ _) _⟩
open Go.RowKit
set_option linter.unusedVariables false
set_option maxHeartbeats 8000000 in
set_option maxRecDepth 100000 in
theorem lastPage_any (g r : Int) (w : World) (hg : 0 ≤ g) (bs : List Int) (hm : mtBytes g r = some bs) (hbt : byt bs) (he : Err w 0) (he2 : Err w 1) :
    Calls Tryz.prog 39 #[.agg #[.int .i64 g, .int .i64 r]] w fun e w' => ∃ b, e = .returned (.slice (some ⟨b, 0, none⟩) 2 2) ∧ w.heap.size ≤ b ∧ Below w.heap.size w w' ∧ Opr w' (fun y => w.heap.size ≤ y) (.slice (some ⟨b, 0, none⟩) 2 2) [(false, g % 2, bs), (true, 0, [])] := by
  have HM : Hid (∀ v : World, Err v 0 → Err v 1 → Calls Tryz.prog 87 #[.agg #[.int .i64 g, .int .i64 r]] v fun e w' => Put v (some bs) e w') := fun v h1 h2 => by rw [← hm]; exact implMetaBytes_any g r v h1 h2
  have HE := hid he
  have HE2 := hid he2
  clear hm he he2
  go_enter Tryz.func39, Tryz.ntmps39
  have B0 := hid (below_new (o := .cells #[.int .i64 g, .int .i64 r] 75) (w := w) (Below.refl _ _))
  have K0 := hid (Bk.new w 75 [.int .i64 g, .int .i64 r])
  have HS0 : Hid (w.heap.size < (w.alloc (.cells #[.int .i64 g, .int .i64 r] 75)).heap.size) := by show _ < _; simp
  go_wp2_with fail
  refine (HM.out _ (HE.out.below B0.out HE.out.lt) (HE2.out.below B0.out HE2.out.lt)).mono ?_
  generalize w.alloc (.cells #[.int .i64 g, .int .i64 r] 75) = U at *
  rintro e w1 ⟨hb, ⟨h, -⟩ | ⟨v, zs, h, rfl, hO⟩⟩
  · cases h
  · have hz := Option.some.inj h
    subst hz
    have B1 := hid (bt7 B0.out hb)
    have K1 := hid (K0.out.below hb)
    have O1 := hid hO
    have HS1 : Hid (U.heap.size ≤ w1.heap.size) := hb.size
    clear h hb hO B0 HE HE2 HM
    obtain ⟨va, vc, rfl⟩ := Ob.shape O1.out
    have x0 := K1.out.cell (j := 0) rfl
    have x1 := K1.out.cell (j := 1) rfl
    clear K0
    go_wp2_with fail
    refine (metaPlace_any g _ hg).mono ?_
    rintro e w2 ⟨rfl, rfl⟩
    go_wp2_with fail
    go_ret
    have K2 := Bk.new w2 101 [.bool false, .int .i64 (g % 2), .slice va bs.length vc, .bool true, .int .i64 0, .slice none 0 0]
    have B2 : Below w2.heap.size w2 (w2.alloc (.cells #[.bool false, .int .i64 (g % 2), .slice va bs.length vc, .bool true, .int .i64 0, .slice none 0 0] 101)) := below_new (Below.refl _ _)
    refine ⟨w2.heap.size, rfl, B1.out.size, bt7 B1.out B2, [(false, g % 2, .slice va bs.length vc), (true, 0, .slice none 0 0)], rfl, ?_, ?_⟩
    · refine ⟨_, 2, rfl, Nat.le_refl _, by decide, fun h => (by cases h), fun h => (by cases h), fun _ => ⟨w2.heap.size, 0, rfl, by simp, B1.out.size, fun j u hu => ?_⟩⟩
      rw [Nat.zero_add]
      exact K2.cell hu
    · intro i hi
      match i, hi with
      | 0, _ => exact ⟨rfl, rfl, rw_own (O1.out.keep B2) (fun k _ hk _ => Nat.le_trans (Nat.le_of_lt HS0.out) hk), hbt⟩
      | 1, _ => exact ⟨rfl, rfl, rw_nil _ _, fun i => (by simp [oAt])⟩
open Go.RowKit
set_option linter.unusedVariables false
open Go.RowKit
set_option linter.unusedVariables false
theorem pcs_str (ps : List PB) : ∀ u ∈ pcs ps, isStr u := by
  induction ps with
  | nil => intro u hu; cases hu
  | cons p ps ih =>
    intro u hu
    simp only [pcs, List.mem_cons] at hu
    rcases hu with rfl | rfl | hu
    · exact ⟨_, rfl⟩
    · exact ⟨_, rfl⟩
    · exact ih u hu
open Go.RowKit
open Go.RowKit
open Go.RowKit
open Go.RowKit
open Go.RowKit
open Go.RowKit
open Go.RowKit
open Go.RowKit
def klt (a b : ByteArray) : Bool := Op.bytesLess a.toList b.toList
def Asc (l : List PB) : Prop := l.Pairwise fun p q => klt p.1 q.1 = true
def pos : List PB → ByteArray → Nat
  | [], _ => 0
  | p :: l, k => if klt p.1 k = true then pos l k + 1 else 0
open Go.RowKit
open Go.RowKit
open Go.RowKit
end Go.Proofs.YtmilnejacnaejaaGreatDoor
