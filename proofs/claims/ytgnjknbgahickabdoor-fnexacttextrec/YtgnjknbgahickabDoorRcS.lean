/-
  Texts read out of bytes, a record made of them: the program's side of reading a record's text.
-/
import Derived.Test.YtgnjknbgahickabDoorRcR
import Derived.Test.YtgnjknbgahickabDoorRcX
import Derived.Test.YtgnjknbgahickabDoorApG
import Derived.Deep.RegionHeld3
import Derived.Deep.DeepCutAuto
namespace Go.Proofs.YtgnjknbgahickabDoor
open Go.RowKit
set_option linter.unusedVariables false
/-- A row of strings of one's own. -/
def StW (w : World) (B : Nat) (v : Value) (ss : List ByteArray) : Prop := w.ownsRow B 9 1 v ss.length (ss.map Value.string)
theorem StW.to {w w' : World} {B : Nat} {R : Nat → Prop} {v : Value} {ss : List ByteArray} (h : StW w B v ss) (ho : Only R w w') (hR : ∀ y, v.ownBlock = some y → ¬ R y) : StW w' B v ss := own_kept h ho hR
theorem StW.below {w w' : World} {B : Nat} {v : Value} {ss : List ByteArray} (h : StW w B v ss) (hb : Below w.heap.size w w') : StW w' B v ss := h.to (only_of_below hb (fun _ => False)) (fun _ _ h => h)
theorem StW.len {w : World} {B : Nat} {a : Option Addr} {n c : Nat} {ss : List ByteArray} (h : StW w B (.slice a n c) ss) : n = ss.length := by
  rcases h.2 with ⟨e, e2⟩ | ⟨g, cap, cur, e, _⟩
  · cases e; exact e2.symm
  · cases e; rfl
theorem StW.at {w : World} {B : Nat} {a : Option Addr} {n c : Nat} {ss : List ByteArray} (h : StW w B (.slice a n c) ss) (hp : 0 < n) : ∃ g, a = some ⟨g, 0, none⟩ ∧ g < w.heap.size ∧ n ≤ c ∧ ∀ i, i < n → w.cell? ⟨g, i, none⟩ = some (.string (ss[i]?.getD ⟨#[]⟩)) := by
  have hl := h.len
  have hc := fun g hg => World.ownsRow.cells h (g := g) hg
  have hlt := World.ownsRow.lt h
  rcases h.2 with ⟨e, e2⟩ | ⟨g, cap, cur, e, hB, hg, k5, k6, k7, k8⟩
  · cases e; omega
  · cases e
    refine ⟨g, rfl, (hlt g rfl).2, k5, fun i hi => ?_⟩
    have := hc g rfl i (.string (ss[i]?.getD ⟨#[]⟩)) (by simp [show i < ss.length from hi])
    rwa [Addr.add_lit, Nat.zero_add] at this
theorem wpList_append_stB {w : World} {ops : Array Oper} {rest : List Oper} {o : Oper} {a : Act} {Q : Exit → Act → World → Prop} (hgd : o.guard = none) (s x : Operand)
    (ho : o.op = .call { callee := .builtin .append, args := #[s, x], argTypes := #[65, 65] }) (B : Nat) (v : Value) (ss : List ByteArray) (hs : a.eval s = v) (hown : StW w B v ss)
    (g : Nat) (z : ByteArray) (hx : a.eval x = .slice (some ⟨g, 0, none⟩) 1 1) (hB : Bk w g 9 [.string z]) (hb : ss.length ≤ 1048576) (hbase : B ≤ w.heap.size)
    (h : ∀ a' n' c' w', StW w' B (.slice a' n' c') (ss ++ [z]) → w.grownBy w' v.ownBlock → wpList Tryd.prog ops Q rest (a.put o.dst (.slice a' n' c')) w') : wpList Tryd.prog ops Q (o :: rest) a w := by
  obtain ⟨i, hi, hz, hsz, hby⟩ := info_of infoStr'
  refine wpList_append_row_at hgd s x 65 ho B 9 i _ 1 16 Tryd.underlying65 hi hz hsz hby rfl (by decide) v ss.length (ss.map Value.string) hs hown (fun _ => True) _ 1 [.string z] hx (hB.rw (Nat.le_refl _) (by omega) (fun h => by omega) _ trivial) rfl
    (by intro u hu; simp at hu; subst hu; rfl) (by unfold maxLen; omega) (by omega) hbase ?_
  intro v' w' k1 k2 k3
  obtain ⟨a', c', rfl⟩ := own_shape k1
  refine h a' _ c' w' ?_ k2
  unfold StW
  rw [List.length_append, List.map_append]
  exact k1
theorem grown_low {w w' : World} {B : Nat} {v : Value} {ss : List ByteArray} (hg : w.grownBy w' v.ownBlock) (h : StW w B v ss) (hB : B ≤ w.heap.size) : Below B w w' := (Below.refl B w).grown hg hB fun k hk => (World.ownsRow.lt h k hk).1
set_option maxHeartbeats 1600000 in
theorem textsIn_any (a : Option Addr) (n c : Nat) (zs : List Int) (f : Nat) (w : World) (h : Rd w a n c zs) (hn : n ≤ 1048576) (hf : n < f) :
    Calls Tryd.prog 30 #[.slice a n c] w fun e w' => ∃ a' n' c', e = .returned (.slice a' n' c') ∧ StW w' w.heap.size (.slice a' n' c') (txF f zs 0) ∧ Below w.heap.size w w' := by
  have HR := hid h
  have HN := hid h.len
  have HY := hid h.2.2.2.2.1
  clear h
  go_enter Tryd.func30, Tryd.ntmps30
  go_wp2
  go_loopw [3, 4] (fun v i wr => ∃ a' n' c' p g acc, v = .slice a' n' c' ∧ i = .int .i64 p ∧ 0 ≤ p ∧ p ≤ (n : Int) ∧ (n : Int) - p < (g : Nat) ∧ Hid (acc ++ txF g zs p = txF f zs 0) ∧ Hid (StW wr w.heap.size (.slice a' n' c') acc) ∧ Hid (Below w.heap.size w wr) ∧ (acc.length : Int) ≤ p) (fun _ i _ => n - (intOf i).toNat)
  case atStart => exact ⟨none, 0, 0, 0, f, [], rfl, rfl, by omega, by omega, by omega, rfl, World.ownsRow_nil _ _ _ _, Below.refl _ _, by simp⟩
  case round =>
    obtain ⟨a', n', c', p, g, acc, rfl, rfl, hp0, hp1, hpg, HT, HO, HB, hal⟩ := hrel
    by_cases hlt : p < (n : Int)
    · have HG1 := hid (gt_step zs HY.out p)
      have HP : Hid (p < (zs.length : Int)) := by show _ < _; rw [← HN.out]; exact hlt
      have HST := hid (fun (g : Nat) h2 => txF_more g zs p HP.out h2)
      have HSP := hid (fun h2 => txF_stop g zs p h2)
      go_wp2_with fail
      refine (implGetText_any a n c zs p wr (HR.out.kept HB.out) (by omega)).mono ?_
      rintro e w1 ⟨rfl, rfl⟩
      generalize hq : (gt zs p).2 = q at *
      generalize strOf (gt zs p).1 = t at *
      clear hq
      by_cases hneg : q < 0
      · have HE : Hid (acc = txF f zs 0) := by have := HT.out; rwa [HSP.out hneg, List.append_nil] at this
        clear HG1 HP HST HSP
        go_wp2
        go_ret
        exact ⟨_, _, _, rfl, by rw [← HE.out]; exact HO.out, HB.out⟩
      · obtain ⟨hq1, hq2, -⟩ := HG1.out (by omega)
        rw [← HN.out] at hq2
        obtain ⟨g', rfl⟩ : ∃ g', g = g' + 1 := ⟨g - 1, by omega⟩
        have HT2 : Hid (acc ++ [t] ++ txF g' zs q = txF f zs 0) := by
          show _ = _
          rw [← HT.out, HST.out g' (by omega)]; simp
        clear HG1 HP HST HSP HT
        have K1 := hid (Bk.new wr 9 [.string t])
        have O1 := hid (HO.out.below (below_new (o := .cells #[.string t] 9) (w := wr) (Below.refl _ _)))
        have B1 := hid (HB.out.trans ((below_new (o := .cells #[.string t] 9) (w := wr) (Below.refl _ _)).mono HB.out.size))
        have SZ := hid HB.out.size
        go_wp2_with (at_builtin; refine wpList_append_stB rfl _ _ rfl w.heap.size _ acc rfl O1.out wr.heap.size t rfl K1.out (by omega) (by have := SZ.out; simp; omega) ?_)
        intro a2 n2 c2 w2 hO2 hG2
        have O2 := hid hO2
        have B2 := hid (B1.out.trans (grown_low hG2 O1.out (by have := SZ.out; simp; omega)))
        clear hO2 hG2 K1 O1 B1 HO HB SZ
        go_wp2
        go_roundw
        case rel => exact ⟨a2, n2, c2, q, g', acc ++ [t], rfl, rfl, by omega, by omega, by omega, HT2, O2, B2, by simp; omega⟩
        case measure => simp [intOf]; omega
    · have HE : Hid (acc = txF f zs 0) := by
        have := HT.out
        rwa [txF_end g zs p (by rw [← HN.out]; exact hlt), List.append_nil] at this
      go_wp2
      go_ret
      exact ⟨_, _, _, rfl, by rw [← HE.out]; exact HO.out, HB.out⟩
end Go.Proofs.YtgnjknbgahickabDoor

