/-
  PrepEdits of the program and of the specification.
-/
import Derived.Test.YtgnjknbgahickabDoorMp1
import Derived.Test.YtgnjknbgahickabDoorMp2
import Derived.Deep.RegionHeld3
import Derived.Deep.DeepCutAuto
import Derived.Deep.Strs
import Derived.Deep.Slices
import Derived.ChangeSlices
import Derived.WideShapes
import Derived.ChangeSame
import Derived.ProofKit
import Derived.OpenShut
import Derived.Deep.RegionLaw
namespace Go.Proofs.YtgnjknbgahickabDoor
open Go.RowKit
set_option linter.unusedVariables false
/-- Cells that are kept. -/
def CS (v : World) (cs : List (Addr × Value)) : Prop := ∀ p ∈ cs, v.cell? p.1 = some p.2
theorem CS.call {v v' : World} {cs : List (Addr × Value)} (h : CS v cs) (k : Below v.heap.size v v') : CS v' cs := fun p hp => by
  have hc := h p hp
  rw [k.cell (p := p.1) (block_lt hc)]
  exact hc
theorem CS.grown {v v' : World} {row : Option Nat} {cs : List (Addr × Value)} (h : CS v cs) (k : v.grownBy v' row) (hr : ∀ p ∈ cs, some p.1.block ≠ row) : CS v' cs := fun p hp => by
  have hc := h p hp
  exact (World.cell?_of_block (w := v) (k.block p.1.block (block_lt hc) (hr p hp))).trans hc
theorem cs8 {v : World} {a0 a1 a2 a3 a4 a5 a6 a7 : Addr} {x0 x1 x2 x3 x4 x5 x6 x7 : Value} (h : CS v [(a0, x0), (a1, x1), (a2, x2), (a3, x3), (a4, x4), (a5, x5), (a6, x6), (a7, x7)]) : v.cell? a0 = some x0 ∧ v.cell? a1 = some x1 ∧ v.cell? a2 = some x2 ∧ v.cell? a3 = some x3 ∧ v.cell? a4 = some x4 ∧ v.cell? a5 = some x5 ∧ v.cell? a6 = some x6 ∧ v.cell? a7 = some x7 ∧ CS v [(a0, x0), (a1, x1), (a2, x2), (a3, x3), (a4, x4), (a5, x5), (a6, x6), (a7, x7)] := ⟨h (a0, x0) (by simp), h (a1, x1) (by simp), h (a2, x2) (by simp), h (a3, x3) (by simp), h (a4, x4) (by simp), h (a5, x5) (by simp), h (a6, x6) (by simp), h (a7, x7) (by simp), h⟩
theorem cs8c {v v' : World} {a0 a1 a2 a3 a4 a5 a6 a7 : Addr} {x0 x1 x2 x3 x4 x5 x6 x7 : Value} (k : Below v.heap.size v v') (h : v.cell? a0 = some x0 ∧ v.cell? a1 = some x1 ∧ v.cell? a2 = some x2 ∧ v.cell? a3 = some x3 ∧ v.cell? a4 = some x4 ∧ v.cell? a5 = some x5 ∧ v.cell? a6 = some x6 ∧ v.cell? a7 = some x7 ∧ CS v [(a0, x0), (a1, x1), (a2, x2), (a3, x3), (a4, x4), (a5, x5), (a6, x6), (a7, x7)]) : v'.cell? a0 = some x0 ∧ v'.cell? a1 = some x1 ∧ v'.cell? a2 = some x2 ∧ v'.cell? a3 = some x3 ∧ v'.cell? a4 = some x4 ∧ v'.cell? a5 = some x5 ∧ v'.cell? a6 = some x6 ∧ v'.cell? a7 = some x7 ∧ CS v' [(a0, x0), (a1, x1), (a2, x2), (a3, x3), (a4, x4), (a5, x5), (a6, x6), (a7, x7)] := cs8 (CS.call h.2.2.2.2.2.2.2.2 k)
theorem cs8g {v v' : World} {row : Option Nat} {a0 a1 a2 a3 a4 a5 a6 a7 : Addr} {x0 x1 x2 x3 x4 x5 x6 x7 : Value} (k : v.grownBy v' row) (hr : ∀ p ∈ [(a0, x0), (a1, x1), (a2, x2), (a3, x3), (a4, x4), (a5, x5), (a6, x6), (a7, x7)], some p.1.block ≠ row) (h : v.cell? a0 = some x0 ∧ v.cell? a1 = some x1 ∧ v.cell? a2 = some x2 ∧ v.cell? a3 = some x3 ∧ v.cell? a4 = some x4 ∧ v.cell? a5 = some x5 ∧ v.cell? a6 = some x6 ∧ v.cell? a7 = some x7 ∧ CS v [(a0, x0), (a1, x1), (a2, x2), (a3, x3), (a4, x4), (a5, x5), (a6, x6), (a7, x7)]) : v'.cell? a0 = some x0 ∧ v'.cell? a1 = some x1 ∧ v'.cell? a2 = some x2 ∧ v'.cell? a3 = some x3 ∧ v'.cell? a4 = some x4 ∧ v'.cell? a5 = some x5 ∧ v'.cell? a6 = some x6 ∧ v'.cell? a7 = some x7 ∧ CS v' [(a0, x0), (a1, x1), (a2, x2), (a3, x3), (a4, x4), (a5, x5), (a6, x6), (a7, x7)] := cs8 (CS.grown h.2.2.2.2.2.2.2.2 k hr)
theorem cs8_0 {v : World} {a0 a1 a2 a3 a4 a5 a6 a7 : Addr} {x0 x1 x2 x3 x4 x5 x6 x7 : Value} (h0 : v.cell? a0 = some x0) (h1 : v.cell? a1 = some x1) (h2 : v.cell? a2 = some x2) (h3 : v.cell? a3 = some x3) (h4 : v.cell? a4 = some x4) (h5 : v.cell? a5 = some x5) (h6 : v.cell? a6 = some x6) (h7 : v.cell? a7 = some x7) : CS v [(a0, x0), (a1, x1), (a2, x2), (a3, x3), (a4, x4), (a5, x5), (a6, x6), (a7, x7)] := fun p hp => by
    simp only [List.mem_cons, List.not_mem_nil, or_false] at hp
    rcases hp with rfl | rfl | rfl | rfl | rfl | rfl | rfl | rfl <;> assumption
theorem cs3 {v : World} {a0 a1 a2 : Addr} {x0 x1 x2 : Value} (h : CS v [(a0, x0), (a1, x1), (a2, x2)]) : v.cell? a0 = some x0 ∧ v.cell? a1 = some x1 ∧ v.cell? a2 = some x2 ∧ CS v [(a0, x0), (a1, x1), (a2, x2)] := ⟨h (a0, x0) (by simp), h (a1, x1) (by simp), h (a2, x2) (by simp), h⟩
theorem cs3c {v v' : World} {a0 a1 a2 : Addr} {x0 x1 x2 : Value} (k : Below v.heap.size v v') (h : v.cell? a0 = some x0 ∧ v.cell? a1 = some x1 ∧ v.cell? a2 = some x2 ∧ CS v [(a0, x0), (a1, x1), (a2, x2)]) : v'.cell? a0 = some x0 ∧ v'.cell? a1 = some x1 ∧ v'.cell? a2 = some x2 ∧ CS v' [(a0, x0), (a1, x1), (a2, x2)] := cs3 (CS.call h.2.2.2 k)
theorem cs3g {v v' : World} {row : Option Nat} {a0 a1 a2 : Addr} {x0 x1 x2 : Value} (k : v.grownBy v' row) (hr : ∀ p ∈ [(a0, x0), (a1, x1), (a2, x2)], some p.1.block ≠ row) (h : v.cell? a0 = some x0 ∧ v.cell? a1 = some x1 ∧ v.cell? a2 = some x2 ∧ CS v [(a0, x0), (a1, x1), (a2, x2)]) : v'.cell? a0 = some x0 ∧ v'.cell? a1 = some x1 ∧ v'.cell? a2 = some x2 ∧ CS v' [(a0, x0), (a1, x1), (a2, x2)] := cs3 (CS.grown h.2.2.2 k hr)
theorem cs3_0 {v : World} {a0 a1 a2 : Addr} {x0 x1 x2 : Value} (h0 : v.cell? a0 = some x0) (h1 : v.cell? a1 = some x1) (h2 : v.cell? a2 = some x2) : CS v [(a0, x0), (a1, x1), (a2, x2)] := fun p hp => by
    simp only [List.mem_cons, List.not_mem_nil, or_false] at hp
    rcases hp with rfl | rfl | rfl <;> assumption
/-- A row of edits of one's own. -/
def EdW (w : World) (B : Nat) (v : Value) (l : List ED) : Prop := w.ownsRow B 72 3 v l.length (ecs l)
theorem EdW.to {w w' : World} {B : Nat} {R : Nat → Prop} {v : Value} {l : List ED} (h : EdW w B v l) (ho : Only R w w') (hR : ∀ y, v.ownBlock = some y → ¬ R y) : EdW w' B v l := own_kept h ho hR
theorem EdW.below {w w' : World} {B : Nat} {v : Value} {l : List ED} (h : EdW w B v l) (hb : Below w.heap.size w w') : EdW w' B v l := h.to (only_of_below hb (fun _ => False)) (fun _ _ h => h)
theorem EdW.lt {w : World} {B : Nat} {v : Value} {l : List ED} (h : EdW w B v l) {y : Nat} (hy : v.ownBlock = some y) : B ≤ y ∧ y < w.heap.size := World.ownsRow.lt h y hy
theorem EdW.r {w : World} {B : Nat} {v : Value} {l : List ED} (h : EdW w B v l) : Er w (fun _ => True) v l := rw_own h (fun _ _ _ _ => trivial)
theorem EdW.base {w : World} {B B' : Nat} {v : Value} {l : List ED} (h : EdW w B v l) (hB : B' ≤ B) : EdW w B' v l := by
  refine ⟨h.1, h.2.imp id ?_⟩
  rintro ⟨g, cap, cur, k1, k2, k3⟩
  exact ⟨g, cap, cur, k1, by omega, k3⟩
theorem edw_new (w : World) (B : Nat) (hB : B ≤ w.heap.size) : EdW (w.alloc (.cells #[] 72)) B (.slice (some ⟨w.heap.size, 0, none⟩) 0 0) [] :=
  ⟨rfl, .inr ⟨w.heap.size, 0, #[], rfl, hB, heap_alloc_new w _, Nat.le_refl _, by decide, rfl, rfl⟩⟩
theorem ecs_snoc (l : List ED) (x : ED) : ecs (l ++ [x]) = ecs l ++ ecs [x] := by
  induction l with
  | nil => rfl
  | cons p ps ih => simp only [ecs, List.cons_append, ih]
theorem run_append_ed {w : World} (ty : TypeId) (B : Nat) (v : Value) (l : List ED) (hown : EdW w B v l) (g : Nat) (x : ED) (hB : Bk w g 72 (ecs [x])) (hb : l.length ≤ 1048576) (hbase : B ≤ w.heap.size) :
    ∃ a' n' c' w', (Builtin.append_ #[43, 43] ty #[v, .slice (some ⟨g, 0, none⟩) 1 1]).run Tryd.prog w = .ok (.slice a' n' c') w' ∧ EdW w' B (.slice a' n' c') (l ++ [x]) ∧ w.grownBy w' v.ownBlock := by
  obtain ⟨i, hi, hz, hsz, hby⟩ := info_of infoEditI
  obtain ⟨v', w', hr, h2, h3, h4⟩ := run_append_row_at (P := Tryd.prog) (w := w) B 43 ty 72 i _ 3 40 Tryd.underlying43 hi hz hsz hby rfl (by decide) v l.length (ecs l) hown (fun _ => True) _ 1 (ecs [x]) (hB.rw (Nat.le_refl _) (by omega) (fun h => by omega) _ trivial) rfl (ecs_one [x]) (by unfold maxLen; omega) (by omega) hbase
  obtain ⟨a', c', rfl⟩ := own_shape h2
  refine ⟨a', _, c', w', hr, ?_, h3⟩
  unfold EdW
  rw [List.length_append, ecs_snoc]
  exact h2
theorem step_append_ed {w w' : World} {o : Oper} {a : Act} {K : Act → World → Prop} {Q : Exit → Act → World → Prop} (s x : Operand)
    (ho : o.op = .call { callee := .builtin .append, args := #[s, x], argTypes := #[43, 43] }) (v src v' : Value) (hs : a.eval s = v) (hx : a.eval x = src)
    (hr : (Builtin.append_ #[43, 43] o.type #[v, src]).run Tryd.prog w = .ok v' w') (h : K (a.put o.dst v') w') : Oper.wp Tryd.prog o a w K Q := by
  unfold Oper.wp execOp
  simp only [ho, resolve, invoke, builtin, Sem.run_bind, Sem.run_pure, Result.andThen_ok, List.map_toArray, List.map_cons, List.map_nil, hs, hx, hr]
  exact h
theorem edw_low {w w' : World} {B : Nat} {v : Value} {l : List ED} (hg : w.grownBy w' v.ownBlock) (h : EdW w B v l) (hB : B ≤ w.heap.size) : Below B w w' := (Below.refl B w).grown hg hB fun k hk => (h.lt hk).1
/-- The edits that put the first k records. -/
def peK (t : TX) (rl : List RC) (k : Nat) : List ED := (List.range k).map (fun i : Nat => (pKey t (i : Int), rcTxt (rcAt rl i), false))
def peV (t : TX) (rl : List RC) : List ED := if prOk t rl = true then peK t rl rl.length ++ [(lKey t.1, txT t, false)] else []
theorem peK_succ (t : TX) (rl : List RC) (k : Nat) : peK t rl (k + 1) = peK t rl k ++ [(pKey t (k : Int), rcTxt (rcAt rl k), false)] := by simp [peK, List.range_succ]
theorem peK_len (t : TX) (rl : List RC) (k : Nat) : (peK t rl k).length = k := by simp [peK]
/-- What is kept while the edits are gathered. -/
structure PE (w v : World) (c e n : Int) (ra : Option Addr) (rn rc : Nat) (o : Value) (l : List ED) : Prop where
  bel : Below w.heap.size w v
  kA : Bk v w.heap.size 48 [.int .i64 c, .int .i64 e, .int .i64 n, .slice ra rn rc]
  own : EdW v (w.heap.size + 1) o l
theorem PE.below {w v v' : World} {c e n : Int} {ra : Option Addr} {rn rc : Nat} {o : Value} {l : List ED} (h : PE w v c e n ra rn rc o l) (hb : Below v.heap.size v v') : PE w v' c e n ra rn rc o l := ⟨btE h.bel hb, h.kA.below hb, h.own.below hb⟩
theorem PE.app {w v v' : World} {c e n : Int} {ra : Option Addr} {rn rc : Nat} {o o' : Value} {l l' : List ED} (h : PE w v c e n ra rn rc o l) (hg : v.grownBy v' o.ownBlock) (ho : EdW v' (w.heap.size + 1) o' l') : PE w v' c e n ra rn rc o' l' := by
  have hl := edw_low hg h.own (by have := h.kA.lt; omega)
  exact ⟨h.bel.trans (hl.mono (Nat.le_succ _)), (hl.block _ (Nat.lt_succ_self _)).trans h.kA, ho⟩
set_option maxHeartbeats 16000000 in
set_option maxRecDepth 20000 in
theorem implPrepEdits_any (S : Nat → Prop) (c e n : Int) (ra : Option Addr) (rn rc : Nat) (rl : List RC) (w : World) (h : rcR w S (.slice ra rn rc) rl) (ht : Tab w) (hg : 2 < w.heap.size) :
    Calls Tryd.prog 16 #[.agg #[.int .i64 c, .int .i64 e, .int .i64 n, .slice ra rn rc]] w fun r w' => (∃ a' n' c', r = .returned (.slice a' n' c') ∧ EdW w' w.heap.size (.slice a' n' c') (peV (c, e, n) rl)) ∧ Below w.heap.size w w' := by
  have HN := hid (Rw.len h).1
  have H0 := hid h
  have HT := hid ht
  have HG := hid hg
  clear ht hg
  clear h
  have B0 := hid (below_new (o := .cells #[.int .i64 c, .int .i64 e, .int .i64 n, .slice ra rn rc] 48) (w := w) (Below.refl _ _))
  have K0 := hid (Bk.new w 48 [.int .i64 c, .int .i64 e, .int .i64 n, .slice ra rn rc])
  have C1 := hid (fun v h => implPrepOk_any S c e n ra rn rc rl v h)
  have HP : Hid (prOk (c, e, n) rl = true → rl.length ≤ 16) := fun q => by
    simp [prOk] at q
    exact q.2.1
  by_cases hok : prOk (c, e, n) rl = true
  · have HV : Hid (peV (c, e, n) rl = peK (c, e, n) rl rl.length ++ [(lKey c, txT (c, e, n), false)]) := by show _ = _; rw [peV, if_pos hok]
    have hr16 : rn ≤ 16 := by rw [HN.out]; exact HP.out hok
    rw [hok] at C1
    clear HP hok
    go_enter Tryd.func16, Tryd.ntmps16
    go_wp2_with fail
    refine (C1.out _ (H0.out.below B0.out)).mono ?_
    generalize w.alloc (.cells #[.int .i64 c, .int .i64 e, .int .i64 n, .slice ra rn rc] 48) = U at *
    rintro r w1 ⟨rfl, hb⟩
    have K1 := hid (K0.out.below hb)
    have B1 := hid (btE B0.out hb)
    clear hb K0 B0 C1
    have x3 := K1.out.cell (j := 3) rfl
    have E1 : Hid (PE w w1 c e n ra rn rc (.slice none 0 0) (peK (c, e, n) rl 0)) := ⟨B1.out, K1.out, World.ownsRow_nil _ _ _ _⟩
    go_wp2_with fail
    go_loopw [3, 12] (fun x i wr => ∃ (k : Nat) (oa : Option Addr) (on oc : Nat), k ≤ rn ∧ x = .slice oa on oc ∧ i = .int .i64 k ∧ Hid (PE w wr c e n ra rn rc (.slice oa on oc) (peK (c, e, n) rl k))) (fun _ i _ => rn - (intOf i).toNat)
    case atStart => exact ⟨0, _, _, _, Nat.zero_le _, rfl, rfl, E1⟩
    case round =>
      obtain ⟨k, oa, on, oc, hk, rfl, rfl, P0⟩ := hrel
      clear x3 K1 B1 E1
      by_cases hlt : k < rn
      · have hlt' : (k : Int) < (rn : Int) := by omega
        have hml : k < rl.length := by rw [← HN.out]; exact hlt
        obtain ⟨b, off, ha, -, hbw, hcell⟩ := (H0.out.below P0.out.bel).at (by omega)
        obtain ⟨hc0, hc1, hc2, hc3, hc4⟩ := hcell k hlt
        clear hcell
        subst ha
        have HSU := hid (peK_succ (c, e, n) rl k)
        have HLN := hid (peK_len (c, e, n) rl k)
        generalize hcur : rcAt rl k = cur at *
        obtain ⟨xk, xky, xvl, xlo, xhi⟩ := cur
        clear hcur
        have HRT : Hid (rcTxt (xk, xky, xvl, xlo, xhi) = rcTx xk xky xvl xlo xhi) := rfl
        rw [HRT.out] at HSU
        have hb := below_new (o := .cells #[.int .i64 xk, .string xky, .string xvl, .string xlo, .string xhi] 30) (w := wr) (Below.refl _ _)
        have PU := hid (P0.out.below hb)
        have KR := hid (Bk.new wr 30 [.int .i64 xk, .string xky, .string xvl, .string xlo, .string xhi])
        have NB : Hid (∀ y, (Value.slice oa on oc).ownBlock = some y → w.heap.size < y ∧ y < wr.heap.size) := fun y hy => by have := P0.out.own.lt hy; omega
        have hwl : w.heap.size < wr.heap.size := P0.out.kA.lt
        have p0 := P0.out.kA.cell (j := 0) rfl
        have p1 := P0.out.kA.cell (j := 1) rfl
        have p2 := P0.out.kA.cell (j := 2) rfl
        have CR := hid (fun w => implRecText_any xk xky xvl xlo xhi w)
        have CK := hid (fun v h hg => implPKey_any c e n (k : Int) v h hg)
        generalize rcTx xk xky xvl xlo xhi = tv at *
        generalize pKey (c, e, n) (k : Int) = tk at *
        generalize hpl : peK (c, e, n) rl k = pl at *
        clear hb hpl HRT
        go_wp2_with fail
        generalize wr.alloc (.cells #[.int .i64 xk, .string xky, .string xvl, .string xlo, .string xhi] 30) = U at *
        generalize hg5 : wr.heap.size = g5 at *
        clear hg5
        have T0 := hid (cs8_0 (PU.out.kA.cell (j := 0) rfl) (PU.out.kA.cell (j := 1) rfl) (PU.out.kA.cell (j := 2) rfl) (KR.out.cell (j := 0) rfl) (KR.out.cell (j := 1) rfl) (KR.out.cell (j := 2) rfl) (KR.out.cell (j := 3) rfl) (KR.out.cell (j := 4) rfl))
        have T1 := hid (HT.out.below PU.out.bel HG.out)
        have G1 : Hid (2 < U.drew.heap.size) := Nat.lt_of_lt_of_le HG.out PU.out.bel.size
        have T1' : Hid (Tab U.drew) := T1.out.below (below_drew _) G1.out
        clear p0 p1 p2 hc0 hc1 hc2 hc3 hc4
        refine wp_region_noPanic ?_
        refine wp_region_held_drew (S := fun v => v.cell? ⟨w.heap.size, 0, none⟩ = some (.int .i64 c) ∧ v.cell? ⟨w.heap.size, 1, none⟩ = some (.int .i64 e) ∧ v.cell? ⟨w.heap.size, 2, none⟩ = some (.int .i64 n) ∧ v.cell? ⟨g5, 0, none⟩ = some (.int .i64 xk) ∧ v.cell? ⟨g5, 1, none⟩ = some (.string xky) ∧ v.cell? ⟨g5, 2, none⟩ = some (.string xvl) ∧ v.cell? ⟨g5, 3, none⟩ = some (.string xlo) ∧ v.cell? ⟨g5, 4, none⟩ = some (.string xhi) ∧ CS v [(⟨w.heap.size, 0, none⟩, .int .i64 c), (⟨w.heap.size, 1, none⟩, .int .i64 e), (⟨w.heap.size, 2, none⟩, .int .i64 n), (⟨g5, 0, none⟩, .int .i64 xk), (⟨g5, 1, none⟩, .string xky), (⟨g5, 2, none⟩, .string xvl), (⟨g5, 3, none⟩, .string xlo), (⟨g5, 4, none⟩, .string xhi)]) (by kernel_rfl) (cs8 (T0.out.call (below_drew _))) (fun hHeld => ?_)
        simp only [List.size_toArray, List.length_cons, List.length_nil, Array.replicate_succ, Array.replicate_zero, Nat.reduceAdd, List.push_toArray, List.nil_append, List.cons_append]
        have P1 := hid (PU.out.below (below_drew _))
        refine wpAnyH_take (i := 0) (v := (.slice oa on oc)) rfl (by kernel_rfl) (by kernel_rfl) (by kernel_rfl) (fun _ _ _ h => h) (Or.inl ⟨by rfl, ?_⟩) (by assumption) ?_
        · intro w hSw
          (try dsimp only at hSw)
          go_simp
        try simp only [List.getElem_toArray]
        try simp only [List.getElem_cons_succ]
        try simp only [List.getElem_cons_zero]
        try simp only [Act.put]
        try simp only [List.setIfInBounds_toArray]
        try simp only [List.set_cons_succ]
        try simp only [List.set_cons_zero]
        refine wpAnyH_take (i := 1) (v := (.pointer (some ⟨w.heap.size, 0, none⟩))) rfl (by kernel_rfl) (by kernel_rfl) (by kernel_rfl) (fun _ _ _ h => h) (Or.inl ⟨by rfl, ?_⟩) (by assumption) ?_
        · intro w hSw
          (try dsimp only at hSw)
          go_simp
        try simp only [List.getElem_toArray]
        try simp only [List.getElem_cons_succ]
        try simp only [List.getElem_cons_zero]
        try simp only [Act.put]
        try simp only [List.setIfInBounds_toArray]
        try simp only [List.set_cons_succ]
        try simp only [List.set_cons_zero]
        refine wpAnyH_take (i := 2) (v := (.agg #[.int .i64 c, .int .i64 e, .int .i64 n])) rfl (by kernel_rfl) (by kernel_rfl) (by kernel_rfl) (fun _ _ _ h => h) (Or.inl ⟨by rfl, ?_⟩) (by assumption) ?_
        · intro w hSw
          (try dsimp only at hSw)
          go_simp
        try simp only [List.getElem_toArray]
        try simp only [List.getElem_cons_succ]
        try simp only [List.getElem_cons_zero]
        try simp only [Act.put]
        try simp only [List.setIfInBounds_toArray]
        try simp only [List.set_cons_succ]
        try simp only [List.set_cons_zero]
        refine wpAnyH_take (i := 3) (v := (.int .i64 (k : Int))) rfl (by kernel_rfl) (by kernel_rfl) (by kernel_rfl) (fun _ _ _ h => h) (Or.inl ⟨by rfl, ?_⟩) (by assumption) ?_
        · intro w hSw
          (try dsimp only at hSw)
          go_simp
        try simp only [List.getElem_toArray]
        try simp only [List.getElem_cons_succ]
        try simp only [List.getElem_cons_zero]
        try simp only [Act.put]
        try simp only [List.setIfInBounds_toArray]
        try simp only [List.set_cons_succ]
        try simp only [List.set_cons_zero]
        refine wpAnyH_take (i := 5) (v := (.agg #[.int .i64 xk, .string xky, .string xvl, .string xlo, .string xhi])) rfl (by kernel_rfl) (by kernel_rfl) (by kernel_rfl) (fun _ _ _ h => h) (Or.inl ⟨by rfl, ?_⟩) (by assumption) ?_
        · intro w hSw
          (try dsimp only at hSw)
          go_simp
        try simp only [List.getElem_toArray]
        try simp only [List.getElem_cons_succ]
        try simp only [List.getElem_cons_zero]
        try simp only [Act.put]
        try simp only [List.setIfInBounds_toArray]
        try simp only [List.set_cons_succ]
        try simp only [List.set_cons_zero]
        refine wpAnyH_ready (rs := [4]) (by kernel_rfl) (by simp) ?_
        refine AllReadyH.cons rfl (fun K1 hK => ?_) AllReadyH.nil
        go_simp
        refine (CK.out _ T1'.out G1.out).mono ?_
        rintro r q1 ⟨rfl, hbC⟩
        have P2 := hid (P1.out.below hbC)
        clear P1
        go_wp2_with fail
        refine hK.out _ _ ?_ (fun hHeld => ?_)
        · exact cs8c hbC (by assumption)
        clear hK K1
        try simp only [List.getElem_toArray]
        try simp only [List.getElem_cons_succ]
        try simp only [List.getElem_cons_zero]
        try simp only [Act.put]
        try simp only [List.setIfInBounds_toArray]
        try simp only [List.set_cons_succ]
        try simp only [List.set_cons_zero]
        clear hbC
        refine wpAnyH_ready (rs := [6]) (by kernel_rfl) (by simp) ?_
        refine AllReadyH.cons rfl (fun K1 hK => ?_) AllReadyH.nil
        go_simp
        refine (CR.out _).mono ?_
        rintro r q2 ⟨rfl, hbC⟩
        have P3 := hid (P2.out.below hbC)
        clear P2
        go_wp2_with fail
        refine hK.out _ _ ?_ (fun hHeld => ?_)
        · exact cs8c hbC (by assumption)
        clear hK K1
        try simp only [List.getElem_toArray]
        try simp only [List.getElem_cons_succ]
        try simp only [List.getElem_cons_zero]
        try simp only [Act.put]
        try simp only [List.setIfInBounds_toArray]
        try simp only [List.set_cons_succ]
        try simp only [List.set_cons_zero]
        clear hbC
        refine wpAnyH_take (i := 7) (v := (.agg #[.string tk, .string tv, .bool false])) rfl (by kernel_rfl) (by kernel_rfl) (by kernel_rfl) (fun _ _ _ h => h) (Or.inl ⟨by rfl, ?_⟩) (by assumption) ?_
        · intro w hSw
          (try dsimp only at hSw)
          go_simp
        try simp only [List.getElem_toArray]
        try simp only [List.getElem_cons_succ]
        try simp only [List.getElem_cons_zero]
        try simp only [Act.put]
        try simp only [List.setIfInBounds_toArray]
        try simp only [List.set_cons_succ]
        try simp only [List.set_cons_zero]
        refine wpAnyH_ready (rs := [8]) (by kernel_rfl) (by simp) ?_
        refine AllReadyH.cons rfl (fun K1 hK => ?_) AllReadyH.nil
        go_simp
        try go_wp2_with fail
        have hbA := below_new (o := .cells #[.string tk, .string tv, .bool false] 72) (w := q2) (Below.refl _ _)
        have P4 := hid (P3.out.below hbA)
        have KB := hid (Bk.new q2 72 (ecs [(tk, tv, false)]))
        clear P3
        refine hK.out _ _ ?_ (fun hHeld => ?_)
        · exact cs8c hbA (by assumption)
        clear hK K1
        try simp only [List.getElem_toArray]
        try simp only [List.getElem_cons_succ]
        try simp only [List.getElem_cons_zero]
        try simp only [Act.put]
        try simp only [List.setIfInBounds_toArray]
        try simp only [List.set_cons_succ]
        try simp only [List.set_cons_zero]
        clear hbA
        obtain ⟨ea, en, ec, q9, hrun, hO9, hG9⟩ := run_append_ed 43 (w.heap.size + 1) _ (pl) P4.out.own q2.heap.size (tk, tv, false) KB.out (by have := HLN.out; omega) (by have h1 := P4.out.kA.lt; omega)
        have P9 := hid (P4.out.app hG9 hO9)
        refine wpAnyH_ready (rs := [9]) (by kernel_rfl) (by simp) ?_
        refine AllReadyH.cons rfl (fun K1 hK => ?_) AllReadyH.nil
        refine step_append_ed _ _ rfl _ _ _ rfl rfl hrun ?_
        refine hK.out _ _ ?_ (fun hHeld => ?_)
        · exact cs8g hG9 (fun p hp q => by
              have h1 := NB.out
              simp only [List.mem_cons, List.not_mem_nil, or_false] at hp
              rcases hp with rfl | rfl | rfl | rfl | rfl | rfl | rfl | rfl <;> (have h2 := h1 _ q.symm; simp only at h2; omega)) (by assumption)
        clear hK K1
        try simp only [List.getElem_toArray]
        try simp only [List.getElem_cons_succ]
        try simp only [List.getElem_cons_zero]
        try simp only [Act.put]
        try simp only [List.setIfInBounds_toArray]
        try simp only [List.set_cons_succ]
        try simp only [List.set_cons_zero]
        clear hG9 hO9 hrun KB P4
        refine wpAnyH_take (i := 10) (v := (.slice ea en ec)) rfl (by kernel_rfl) (by kernel_rfl) (by kernel_rfl) (fun _ _ _ h => h) (Or.inl ⟨by rfl, ?_⟩) (by assumption) ?_
        · intro w hSw
          (try dsimp only at hSw)
          go_simp
        try simp only [List.getElem_toArray]
        try simp only [List.getElem_cons_succ]
        try simp only [List.getElem_cons_zero]
        try simp only [Act.put]
        try simp only [List.setIfInBounds_toArray]
        try simp only [List.set_cons_succ]
        try simp only [List.set_cons_zero]
        refine wpAnyH_done (by kernel_rfl) ?_ _
        refine NoPanic.normal ?_
        rw [← HSU.out] at P9
        go_wp2
        go_roundw
        case rel => exact ⟨k + 1, _, _, _, by omega, rfl, by go_num, P9⟩
        case measure => simp [intOf]; omega
      · have hkr : k = rl.length := by have := HN.out; omega
        have HLN := hid (peK_len (c, e, n) rl k)
        have HKL := hid hkr
        clear hkr
        rw [← HKL.out] at HV
        generalize hpl : peK (c, e, n) rl k = pl at *
        clear hpl
        have CT := hid (fun v h hg => implTxText_any c e n v h hg)
        have CL := hid (fun v h => implLKey_any c v h)
        have T1 := hid (HT.out.below P0.out.bel HG.out)
        have G1 : Hid (2 < wr.drew.heap.size) := Nat.lt_of_lt_of_le HG.out P0.out.bel.size
        have T1' : Hid (Tab wr.drew) := T1.out.below (below_drew _) G1.out
        generalize txT (c, e, n) = tx at *
        generalize lKey c = lk at *
        have NB : Hid (∀ y, (Value.slice oa on oc).ownBlock = some y → w.heap.size < y ∧ y < wr.heap.size) := fun y hy => by have := P0.out.own.lt hy; omega
        have T0 := hid (cs3_0 (P0.out.kA.cell (j := 0) rfl) (P0.out.kA.cell (j := 1) rfl) (P0.out.kA.cell (j := 2) rfl))
        go_wp2_with fail
        refine wp_region_noPanic ?_
        refine wp_region_held_drew (S := fun v => v.cell? ⟨w.heap.size, 0, none⟩ = some (.int .i64 c) ∧ v.cell? ⟨w.heap.size, 1, none⟩ = some (.int .i64 e) ∧ v.cell? ⟨w.heap.size, 2, none⟩ = some (.int .i64 n) ∧ CS v [(⟨w.heap.size, 0, none⟩, .int .i64 c), (⟨w.heap.size, 1, none⟩, .int .i64 e), (⟨w.heap.size, 2, none⟩, .int .i64 n)]) (by kernel_rfl) (cs3 (T0.out.call (below_drew _))) (fun hHeld => ?_)
        simp only [List.size_toArray, List.length_cons, List.length_nil, Array.replicate_succ, Array.replicate_zero, Nat.reduceAdd, List.push_toArray, List.nil_append, List.cons_append]
        have P1 := hid (P0.out.below (below_drew _))
        refine wpAnyH_take (i := 0) (v := (.slice oa on oc)) rfl (by kernel_rfl) (by kernel_rfl) (by kernel_rfl) (fun _ _ _ h => h) (Or.inl ⟨by rfl, ?_⟩) (by assumption) ?_
        · intro w hSw
          (try dsimp only at hSw)
          go_simp
        try simp only [List.getElem_toArray]
        try simp only [List.getElem_cons_succ]
        try simp only [List.getElem_cons_zero]
        try simp only [Act.put]
        try simp only [List.setIfInBounds_toArray]
        try simp only [List.set_cons_succ]
        try simp only [List.set_cons_zero]
        refine wpAnyH_take (i := 1) (v := (.pointer (some ⟨w.heap.size, 0, none⟩))) rfl (by kernel_rfl) (by kernel_rfl) (by kernel_rfl) (fun _ _ _ h => h) (Or.inl ⟨by rfl, ?_⟩) (by assumption) ?_
        · intro w hSw
          (try dsimp only at hSw)
          go_simp
        try simp only [List.getElem_toArray]
        try simp only [List.getElem_cons_succ]
        try simp only [List.getElem_cons_zero]
        try simp only [Act.put]
        try simp only [List.setIfInBounds_toArray]
        try simp only [List.set_cons_succ]
        try simp only [List.set_cons_zero]
        refine wpAnyH_take (i := 2) (v := (.pointer (some ⟨w.heap.size, 0, none⟩))) rfl (by kernel_rfl) (by kernel_rfl) (by kernel_rfl) (fun _ _ _ h => h) (Or.inl ⟨by rfl, ?_⟩) (by assumption) ?_
        · intro w hSw
          (try dsimp only at hSw)
          go_simp
        try simp only [List.getElem_toArray]
        try simp only [List.getElem_cons_succ]
        try simp only [List.getElem_cons_zero]
        try simp only [Act.put]
        try simp only [List.setIfInBounds_toArray]
        try simp only [List.set_cons_succ]
        try simp only [List.set_cons_zero]
        refine wpAnyH_take (i := 3) (v := (.int .i64 c)) rfl (by kernel_rfl) (by kernel_rfl) (by kernel_rfl) (fun _ _ _ h => h) (Or.inl ⟨by rfl, ?_⟩) (by assumption) ?_
        · intro w hSw
          (try dsimp only at hSw)
          go_simp
        try simp only [List.getElem_toArray]
        try simp only [List.getElem_cons_succ]
        try simp only [List.getElem_cons_zero]
        try simp only [Act.put]
        try simp only [List.setIfInBounds_toArray]
        try simp only [List.set_cons_succ]
        try simp only [List.set_cons_zero]
        refine wpAnyH_take (i := 5) (v := (.pointer (some ⟨w.heap.size, 0, none⟩))) rfl (by kernel_rfl) (by kernel_rfl) (by kernel_rfl) (fun _ _ _ h => h) (Or.inl ⟨by rfl, ?_⟩) (by assumption) ?_
        · intro w hSw
          (try dsimp only at hSw)
          go_simp
        try simp only [List.getElem_toArray]
        try simp only [List.getElem_cons_succ]
        try simp only [List.getElem_cons_zero]
        try simp only [Act.put]
        try simp only [List.setIfInBounds_toArray]
        try simp only [List.set_cons_succ]
        try simp only [List.set_cons_zero]
        refine wpAnyH_take (i := 6) (v := (.agg #[.int .i64 c, .int .i64 e, .int .i64 n])) rfl (by kernel_rfl) (by kernel_rfl) (by kernel_rfl) (fun _ _ _ h => h) (Or.inl ⟨by rfl, ?_⟩) (by assumption) ?_
        · intro w hSw
          (try dsimp only at hSw)
          go_simp
        try simp only [List.getElem_toArray]
        try simp only [List.getElem_cons_succ]
        try simp only [List.getElem_cons_zero]
        try simp only [Act.put]
        try simp only [List.setIfInBounds_toArray]
        try simp only [List.set_cons_succ]
        try simp only [List.set_cons_zero]
        refine wpAnyH_ready (rs := [4]) (by kernel_rfl) (by simp) ?_
        refine AllReadyH.cons rfl (fun K1 hK => ?_) AllReadyH.nil
        go_simp
        refine (CL.out _ T1'.out).mono ?_
        rintro r q1 ⟨rfl, hbC⟩
        have P2 := hid (P1.out.below hbC)
        have T2 := hid (T1'.out.below hbC G1.out)
        have G2 : Hid (2 < q1.heap.size) := Nat.lt_of_lt_of_le G1.out hbC.size
        clear P1
        go_wp2_with fail
        refine hK.out _ _ ?_ (fun hHeld => ?_)
        · exact cs3c hbC (by assumption)
        clear hK K1
        try simp only [List.getElem_toArray]
        try simp only [List.getElem_cons_succ]
        try simp only [List.getElem_cons_zero]
        try simp only [Act.put]
        try simp only [List.setIfInBounds_toArray]
        try simp only [List.set_cons_succ]
        try simp only [List.set_cons_zero]
        clear hbC
        refine wpAnyH_ready (rs := [7]) (by kernel_rfl) (by simp) ?_
        refine AllReadyH.cons rfl (fun K1 hK => ?_) AllReadyH.nil
        go_simp
        refine (CT.out _ T2.out G2.out).mono ?_
        rintro r q2 ⟨rfl, hbC⟩
        have P3 := hid (P2.out.below hbC)
        clear P2
        go_wp2_with fail
        refine hK.out _ _ ?_ (fun hHeld => ?_)
        · exact cs3c hbC (by assumption)
        clear hK K1
        try simp only [List.getElem_toArray]
        try simp only [List.getElem_cons_succ]
        try simp only [List.getElem_cons_zero]
        try simp only [Act.put]
        try simp only [List.setIfInBounds_toArray]
        try simp only [List.set_cons_succ]
        try simp only [List.set_cons_zero]
        clear hbC
        refine wpAnyH_take (i := 8) (v := (.agg #[.string lk, .string tx, .bool false])) rfl (by kernel_rfl) (by kernel_rfl) (by kernel_rfl) (fun _ _ _ h => h) (Or.inl ⟨by rfl, ?_⟩) (by assumption) ?_
        · intro w hSw
          (try dsimp only at hSw)
          go_simp
        try simp only [List.getElem_toArray]
        try simp only [List.getElem_cons_succ]
        try simp only [List.getElem_cons_zero]
        try simp only [Act.put]
        try simp only [List.setIfInBounds_toArray]
        try simp only [List.set_cons_succ]
        try simp only [List.set_cons_zero]
        refine wpAnyH_ready (rs := [9]) (by kernel_rfl) (by simp) ?_
        refine AllReadyH.cons rfl (fun K1 hK => ?_) AllReadyH.nil
        go_simp
        try go_wp2_with fail
        have hbA := below_new (o := .cells #[.string lk, .string tx, .bool false] 72) (w := q2) (Below.refl _ _)
        have P4 := hid (P3.out.below hbA)
        have KB := hid (Bk.new q2 72 (ecs [(lk, tx, false)]))
        clear P3
        refine hK.out _ _ ?_ (fun hHeld => ?_)
        · exact cs3c hbA (by assumption)
        clear hK K1
        try simp only [List.getElem_toArray]
        try simp only [List.getElem_cons_succ]
        try simp only [List.getElem_cons_zero]
        try simp only [Act.put]
        try simp only [List.setIfInBounds_toArray]
        try simp only [List.set_cons_succ]
        try simp only [List.set_cons_zero]
        clear hbA
        obtain ⟨ea, en, ec, q9, hrun, hO9, hG9⟩ := run_append_ed 43 (w.heap.size + 1) _ (pl) P4.out.own q2.heap.size (lk, tx, false) KB.out (by have := HLN.out; omega) (by have h1 := P4.out.kA.lt; omega)
        have P9 := hid (P4.out.app hG9 hO9)
        refine wpAnyH_ready (rs := [10]) (by kernel_rfl) (by simp) ?_
        refine AllReadyH.cons rfl (fun K1 hK => ?_) AllReadyH.nil
        refine step_append_ed _ _ rfl _ _ _ rfl rfl hrun ?_
        refine hK.out _ _ ?_ (fun hHeld => ?_)
        · exact cs3g hG9 (fun p hp q => by
              have h1 := NB.out
              simp only [List.mem_cons, List.not_mem_nil, or_false] at hp
              rcases hp with rfl | rfl | rfl <;> (have h2 := h1 _ q.symm; simp only at h2; omega)) (by assumption)
        clear hK K1
        try simp only [List.getElem_toArray]
        try simp only [List.getElem_cons_succ]
        try simp only [List.getElem_cons_zero]
        try simp only [Act.put]
        try simp only [List.setIfInBounds_toArray]
        try simp only [List.set_cons_succ]
        try simp only [List.set_cons_zero]
        clear hG9 hO9 hrun KB P4
        refine wpAnyH_take (i := 11) (v := (.slice ea en ec)) rfl (by kernel_rfl) (by kernel_rfl) (by kernel_rfl) (fun _ _ _ h => h) (Or.inl ⟨by rfl, ?_⟩) (by assumption) ?_
        · intro w hSw
          (try dsimp only at hSw)
          go_simp
        try simp only [List.getElem_toArray]
        try simp only [List.getElem_cons_succ]
        try simp only [List.getElem_cons_zero]
        try simp only [Act.put]
        try simp only [List.setIfInBounds_toArray]
        try simp only [List.set_cons_succ]
        try simp only [List.set_cons_zero]
        refine wpAnyH_done (by kernel_rfl) ?_ _
        refine NoPanic.normal ?_
        go_wp2
        go_ret
        exact ⟨⟨_, _, _, rfl, by rw [HV.out]; exact P9.out.own.base (Nat.le_succ _)⟩, P9.out.bel⟩
  · have HV : Hid (peV (c, e, n) rl = []) := by show _ = _; rw [peV, if_neg hok]
    have no : prOk (c, e, n) rl = false := by simpa using hok
    rw [no] at C1
    clear no hok HP
    go_enter Tryd.func16, Tryd.ntmps16
    go_wp2_with fail
    refine (C1.out _ (H0.out.below B0.out)).mono ?_
    rintro r w1 ⟨rfl, hb⟩
    have B1 := hid (btE B0.out hb)
    clear hb K0 B0
    go_wp2
    go_ret
    exact ⟨⟨_, _, _, rfl, by rw [HV.out]; exact World.ownsRow_nil _ _ _ _⟩, B1.out⟩
set_option maxHeartbeats 16000000 in
set_option maxRecDepth 20000 in
theorem specPrepEdits_any (S : Nat → Prop) (c e n : Int) (ra : Option Addr) (rn rc : Nat) (rl : List RC) (w : World) (h : rcR w S (.slice ra rn rc) rl) :
    Calls Tryd.prog 14 #[.agg #[.int .i64 c, .int .i64 e, .int .i64 n, .slice ra rn rc]] w fun r w' => (∃ a' n' c', r = .returned (.slice a' n' c') ∧ EdW w' w.heap.size (.slice a' n' c') (peV (c, e, n) rl)) ∧ Below w.heap.size w w' := by
  have HN := hid (Rw.len h).1
  have H0 := hid h
  clear h
  have B0 := hid (below_new (o := .cells #[.int .i64 c, .int .i64 e, .int .i64 n, .slice ra rn rc] 48) (w := w) (Below.refl _ _))
  have K0 := hid (Bk.new w 48 [.int .i64 c, .int .i64 e, .int .i64 n, .slice ra rn rc])
  have C1 := hid (fun v h => specPrepOk_any S c e n ra rn rc rl v h)
  have HP : Hid (prOk (c, e, n) rl = true → rl.length ≤ 16) := fun q => by
    simp [prOk] at q
    exact q.2.1
  by_cases hok : prOk (c, e, n) rl = true
  · have HV : Hid (peV (c, e, n) rl = peK (c, e, n) rl rl.length ++ [(lKey c, txT (c, e, n), false)]) := by show _ = _; rw [peV, if_pos hok]
    have hr16 : rn ≤ 16 := by rw [HN.out]; exact HP.out hok
    rw [hok] at C1
    clear HP hok
    go_enter Tryd.func14, Tryd.ntmps14
    go_wp2_with fail
    refine (C1.out _ (H0.out.below B0.out)).mono ?_
    generalize w.alloc (.cells #[.int .i64 c, .int .i64 e, .int .i64 n, .slice ra rn rc] 48) = U at *
    rintro r w1 ⟨rfl, hb⟩
    have K1 := hid (K0.out.below hb)
    have B1 := hid (btE B0.out hb)
    clear hb K0 B0 C1
    have x3 := K1.out.cell (j := 3) rfl
    have hb := below_new (o := .cells #[] 72) (w := w1) (Below.refl _ _)
    have E1 : Hid (PE w (w1.alloc (.cells #[] 72)) c e n ra rn rc (.slice (some ⟨w1.heap.size, 0, none⟩) 0 0) (peK (c, e, n) rl 0)) := ⟨btE B1.out hb, K1.out.below hb, edw_new w1 _ (by have := K1.out.lt; omega)⟩
    have hlt1 : w.heap.size < w1.heap.size := K1.out.lt
    clear hb
    go_wp2_with fail
    go_loopw [3, 13] (fun x i wr => ∃ (k : Nat) (oa : Option Addr) (on oc : Nat), k ≤ rn ∧ x = .slice oa on oc ∧ i = .int .i64 k ∧ Hid (PE w wr c e n ra rn rc (.slice oa on oc) (peK (c, e, n) rl k))) (fun _ i _ => rn - (intOf i).toNat)
    case atStart => exact ⟨0, _, _, _, Nat.zero_le _, rfl, rfl, E1⟩
    case round =>
      obtain ⟨k, oa, on, oc, hk, rfl, rfl, P0⟩ := hrel
      clear x3 K1 B1 E1 hlt1
      by_cases hlt : k < rn
      · have hlt' : (k : Int) < (rn : Int) := by omega
        have hml : k < rl.length := by rw [← HN.out]; exact hlt
        obtain ⟨b, off, ha, -, hbw, hcell⟩ := (H0.out.below P0.out.bel).at (by omega)
        obtain ⟨hc0, hc1, hc2, hc3, hc4⟩ := hcell k hlt
        clear hcell
        subst ha
        have HSU := hid (peK_succ (c, e, n) rl k)
        have HLN := hid (peK_len (c, e, n) rl k)
        generalize hcur : rcAt rl k = cur at *
        obtain ⟨xk, xky, xvl, xlo, xhi⟩ := cur
        clear hcur
        have HRT : Hid (rcTxt (xk, xky, xvl, xlo, xhi) = rcTx xk xky xvl xlo xhi) := rfl
        rw [HRT.out] at HSU
        have hb := below_new (o := .cells #[.int .i64 xk, .string xky, .string xvl, .string xlo, .string xhi] 30) (w := wr) (Below.refl _ _)
        have PU := hid (P0.out.below hb)
        have KR := hid (Bk.new wr 30 [.int .i64 xk, .string xky, .string xvl, .string xlo, .string xhi])
        have NB : Hid (∀ y, (Value.slice oa on oc).ownBlock = some y → w.heap.size < y ∧ y < wr.heap.size) := fun y hy => by have := P0.out.own.lt hy; omega
        have hwl : w.heap.size < wr.heap.size := P0.out.kA.lt
        have p0 := P0.out.kA.cell (j := 0) rfl
        have p1 := P0.out.kA.cell (j := 1) rfl
        have p2 := P0.out.kA.cell (j := 2) rfl
        have CR := hid (fun w => specRecText_any xk xky xvl xlo xhi w)
        have CK := hid (fun v => specPKey_any c e n (k : Int) v)
        generalize rcTx xk xky xvl xlo xhi = tv at *
        generalize pKey (c, e, n) (k : Int) = tk at *
        generalize hpl : peK (c, e, n) rl k = pl at *
        clear hb hpl HRT
        go_wp2_with fail
        generalize wr.alloc (.cells #[.int .i64 xk, .string xky, .string xvl, .string xlo, .string xhi] 30) = U at *
        generalize hg5 : wr.heap.size = g5 at *
        clear hg5
        have T0 := hid (cs8_0 (PU.out.kA.cell (j := 0) rfl) (PU.out.kA.cell (j := 1) rfl) (PU.out.kA.cell (j := 2) rfl) (KR.out.cell (j := 0) rfl) (KR.out.cell (j := 1) rfl) (KR.out.cell (j := 2) rfl) (KR.out.cell (j := 3) rfl) (KR.out.cell (j := 4) rfl))
        clear p0 p1 p2 hc0 hc1 hc2 hc3 hc4
        refine wp_region_noPanic ?_
        refine wp_region_held_drew (S := fun v => v.cell? ⟨w.heap.size, 0, none⟩ = some (.int .i64 c) ∧ v.cell? ⟨w.heap.size, 1, none⟩ = some (.int .i64 e) ∧ v.cell? ⟨w.heap.size, 2, none⟩ = some (.int .i64 n) ∧ v.cell? ⟨g5, 0, none⟩ = some (.int .i64 xk) ∧ v.cell? ⟨g5, 1, none⟩ = some (.string xky) ∧ v.cell? ⟨g5, 2, none⟩ = some (.string xvl) ∧ v.cell? ⟨g5, 3, none⟩ = some (.string xlo) ∧ v.cell? ⟨g5, 4, none⟩ = some (.string xhi) ∧ CS v [(⟨w.heap.size, 0, none⟩, .int .i64 c), (⟨w.heap.size, 1, none⟩, .int .i64 e), (⟨w.heap.size, 2, none⟩, .int .i64 n), (⟨g5, 0, none⟩, .int .i64 xk), (⟨g5, 1, none⟩, .string xky), (⟨g5, 2, none⟩, .string xvl), (⟨g5, 3, none⟩, .string xlo), (⟨g5, 4, none⟩, .string xhi)]) (by kernel_rfl) (cs8 (T0.out.call (below_drew _))) (fun hHeld => ?_)
        simp only [List.size_toArray, List.length_cons, List.length_nil, Array.replicate_succ, Array.replicate_zero, Nat.reduceAdd, List.push_toArray, List.nil_append, List.cons_append]
        have P1 := hid (PU.out.below (below_drew _))
        refine wpAnyH_take (i := 0) (v := (.slice oa on oc)) rfl (by kernel_rfl) (by kernel_rfl) (by kernel_rfl) (fun _ _ _ h => h) (Or.inl ⟨by rfl, ?_⟩) (by assumption) ?_
        · intro w hSw
          (try dsimp only at hSw)
          go_simp
        try simp only [List.getElem_toArray]
        try simp only [List.getElem_cons_succ]
        try simp only [List.getElem_cons_zero]
        try simp only [Act.put]
        try simp only [List.setIfInBounds_toArray]
        try simp only [List.set_cons_succ]
        try simp only [List.set_cons_zero]
        refine wpAnyH_take (i := 1) (v := (.pointer (some ⟨w.heap.size, 0, none⟩))) rfl (by kernel_rfl) (by kernel_rfl) (by kernel_rfl) (fun _ _ _ h => h) (Or.inl ⟨by rfl, ?_⟩) (by assumption) ?_
        · intro w hSw
          (try dsimp only at hSw)
          go_simp
        try simp only [List.getElem_toArray]
        try simp only [List.getElem_cons_succ]
        try simp only [List.getElem_cons_zero]
        try simp only [Act.put]
        try simp only [List.setIfInBounds_toArray]
        try simp only [List.set_cons_succ]
        try simp only [List.set_cons_zero]
        refine wpAnyH_take (i := 2) (v := (.agg #[.int .i64 c, .int .i64 e, .int .i64 n])) rfl (by kernel_rfl) (by kernel_rfl) (by kernel_rfl) (fun _ _ _ h => h) (Or.inl ⟨by rfl, ?_⟩) (by assumption) ?_
        · intro w hSw
          (try dsimp only at hSw)
          go_simp
        try simp only [List.getElem_toArray]
        try simp only [List.getElem_cons_succ]
        try simp only [List.getElem_cons_zero]
        try simp only [Act.put]
        try simp only [List.setIfInBounds_toArray]
        try simp only [List.set_cons_succ]
        try simp only [List.set_cons_zero]
        refine wpAnyH_take (i := 3) (v := (.int .i64 (k : Int))) rfl (by kernel_rfl) (by kernel_rfl) (by kernel_rfl) (fun _ _ _ h => h) (Or.inl ⟨by rfl, ?_⟩) (by assumption) ?_
        · intro w hSw
          (try dsimp only at hSw)
          go_simp
        try simp only [List.getElem_toArray]
        try simp only [List.getElem_cons_succ]
        try simp only [List.getElem_cons_zero]
        try simp only [Act.put]
        try simp only [List.setIfInBounds_toArray]
        try simp only [List.set_cons_succ]
        try simp only [List.set_cons_zero]
        refine wpAnyH_take (i := 5) (v := (.agg #[.int .i64 xk, .string xky, .string xvl, .string xlo, .string xhi])) rfl (by kernel_rfl) (by kernel_rfl) (by kernel_rfl) (fun _ _ _ h => h) (Or.inl ⟨by rfl, ?_⟩) (by assumption) ?_
        · intro w hSw
          (try dsimp only at hSw)
          go_simp
        try simp only [List.getElem_toArray]
        try simp only [List.getElem_cons_succ]
        try simp only [List.getElem_cons_zero]
        try simp only [Act.put]
        try simp only [List.setIfInBounds_toArray]
        try simp only [List.set_cons_succ]
        try simp only [List.set_cons_zero]
        refine wpAnyH_ready (rs := [4]) (by kernel_rfl) (by simp) ?_
        refine AllReadyH.cons rfl (fun K1 hK => ?_) AllReadyH.nil
        go_simp
        refine (CK.out _).mono ?_
        rintro r q1 ⟨rfl, hbC⟩
        have P2 := hid (P1.out.below hbC)
        clear P1
        go_wp2_with fail
        refine hK.out _ _ ?_ (fun hHeld => ?_)
        · exact cs8c hbC (by assumption)
        clear hK K1
        try simp only [List.getElem_toArray]
        try simp only [List.getElem_cons_succ]
        try simp only [List.getElem_cons_zero]
        try simp only [Act.put]
        try simp only [List.setIfInBounds_toArray]
        try simp only [List.set_cons_succ]
        try simp only [List.set_cons_zero]
        clear hbC
        refine wpAnyH_ready (rs := [6]) (by kernel_rfl) (by simp) ?_
        refine AllReadyH.cons rfl (fun K1 hK => ?_) AllReadyH.nil
        go_simp
        refine (CR.out _).mono ?_
        rintro r q2 ⟨rfl, hbC⟩
        have P3 := hid (P2.out.below hbC)
        clear P2
        go_wp2_with fail
        refine hK.out _ _ ?_ (fun hHeld => ?_)
        · exact cs8c hbC (by assumption)
        clear hK K1
        try simp only [List.getElem_toArray]
        try simp only [List.getElem_cons_succ]
        try simp only [List.getElem_cons_zero]
        try simp only [Act.put]
        try simp only [List.setIfInBounds_toArray]
        try simp only [List.set_cons_succ]
        try simp only [List.set_cons_zero]
        clear hbC
        refine wpAnyH_take (i := 7) (v := (.agg #[.string tk, .string tv, .bool false])) rfl (by kernel_rfl) (by kernel_rfl) (by kernel_rfl) (fun _ _ _ h => h) (Or.inl ⟨by rfl, ?_⟩) (by assumption) ?_
        · intro w hSw
          (try dsimp only at hSw)
          go_simp
        try simp only [List.getElem_toArray]
        try simp only [List.getElem_cons_succ]
        try simp only [List.getElem_cons_zero]
        try simp only [Act.put]
        try simp only [List.setIfInBounds_toArray]
        try simp only [List.set_cons_succ]
        try simp only [List.set_cons_zero]
        refine wpAnyH_ready (rs := [8]) (by kernel_rfl) (by simp) ?_
        refine AllReadyH.cons rfl (fun K1 hK => ?_) AllReadyH.nil
        go_simp
        try go_wp2_with fail
        have hbA := below_new (o := .cells #[.string tk, .string tv, .bool false] 72) (w := q2) (Below.refl _ _)
        have P4 := hid (P3.out.below hbA)
        have KB := hid (Bk.new q2 72 (ecs [(tk, tv, false)]))
        clear P3
        refine hK.out _ _ ?_ (fun hHeld => ?_)
        · exact cs8c hbA (by assumption)
        clear hK K1
        try simp only [List.getElem_toArray]
        try simp only [List.getElem_cons_succ]
        try simp only [List.getElem_cons_zero]
        try simp only [Act.put]
        try simp only [List.setIfInBounds_toArray]
        try simp only [List.set_cons_succ]
        try simp only [List.set_cons_zero]
        clear hbA
        obtain ⟨ea, en, ec, q9, hrun, hO9, hG9⟩ := run_append_ed 43 (w.heap.size + 1) _ (pl) P4.out.own q2.heap.size (tk, tv, false) KB.out (by have := HLN.out; omega) (by have h1 := P4.out.kA.lt; omega)
        have P9 := hid (P4.out.app hG9 hO9)
        refine wpAnyH_ready (rs := [9]) (by kernel_rfl) (by simp) ?_
        refine AllReadyH.cons rfl (fun K1 hK => ?_) AllReadyH.nil
        refine step_append_ed _ _ rfl _ _ _ rfl rfl hrun ?_
        refine hK.out _ _ ?_ (fun hHeld => ?_)
        · exact cs8g hG9 (fun p hp q => by
              have h1 := NB.out
              simp only [List.mem_cons, List.not_mem_nil, or_false] at hp
              rcases hp with rfl | rfl | rfl | rfl | rfl | rfl | rfl | rfl <;> (have h2 := h1 _ q.symm; simp only at h2; omega)) (by assumption)
        clear hK K1
        try simp only [List.getElem_toArray]
        try simp only [List.getElem_cons_succ]
        try simp only [List.getElem_cons_zero]
        try simp only [Act.put]
        try simp only [List.setIfInBounds_toArray]
        try simp only [List.set_cons_succ]
        try simp only [List.set_cons_zero]
        clear hG9 hO9 hrun KB P4
        refine wpAnyH_take (i := 10) (v := (.slice ea en ec)) rfl (by kernel_rfl) (by kernel_rfl) (by kernel_rfl) (fun _ _ _ h => h) (Or.inl ⟨by rfl, ?_⟩) (by assumption) ?_
        · intro w hSw
          (try dsimp only at hSw)
          go_simp
        try simp only [List.getElem_toArray]
        try simp only [List.getElem_cons_succ]
        try simp only [List.getElem_cons_zero]
        try simp only [Act.put]
        try simp only [List.setIfInBounds_toArray]
        try simp only [List.set_cons_succ]
        try simp only [List.set_cons_zero]
        refine wpAnyH_done (by kernel_rfl) ?_ _
        refine NoPanic.normal ?_
        rw [← HSU.out] at P9
        go_wp2
        go_roundw
        case rel => exact ⟨k + 1, _, _, _, by omega, rfl, by go_num, P9⟩
        case measure => simp [intOf]; omega
      · have hkr : k = rl.length := by have := HN.out; omega
        have HLN := hid (peK_len (c, e, n) rl k)
        have HKL := hid hkr
        clear hkr
        rw [← HKL.out] at HV
        generalize hpl : peK (c, e, n) rl k = pl at *
        clear hpl
        have CT := hid (fun v => specTxText_any c e n v)
        have CL := hid (fun v => specNumText_any c v)
        have HLK : Hid (lKey c = ⟨#[104]⟩ ++ numS c) := rfl
        have s2 := numS_size c
        have p1 : (⟨#[104]⟩ : ByteArray).size = 1 := rfl
        rw [HLK.out] at HV
        generalize numS c = nc at *
        have q1 : ¬ (9223372036854775807 < (⟨#[104]⟩ : ByteArray).size + nc.size) := by omega
        have q1b : 1 + nc.size ≤ 9223372036854775807 := by omega
        generalize hlk : (⟨#[104]⟩ ++ nc : ByteArray) = lk at *
        clear p1 s2 HLK
        generalize txT (c, e, n) = tx at *
        have NB : Hid (∀ y, (Value.slice oa on oc).ownBlock = some y → w.heap.size < y ∧ y < wr.heap.size) := fun y hy => by have := P0.out.own.lt hy; omega
        have T0 := hid (cs3_0 (P0.out.kA.cell (j := 0) rfl) (P0.out.kA.cell (j := 1) rfl) (P0.out.kA.cell (j := 2) rfl))
        go_wp2_with fail
        refine wp_region_noPanic ?_
        refine wp_region_held_drew (S := fun v => v.cell? ⟨w.heap.size, 0, none⟩ = some (.int .i64 c) ∧ v.cell? ⟨w.heap.size, 1, none⟩ = some (.int .i64 e) ∧ v.cell? ⟨w.heap.size, 2, none⟩ = some (.int .i64 n) ∧ CS v [(⟨w.heap.size, 0, none⟩, .int .i64 c), (⟨w.heap.size, 1, none⟩, .int .i64 e), (⟨w.heap.size, 2, none⟩, .int .i64 n)]) (by kernel_rfl) (cs3 (T0.out.call (below_drew _))) (fun hHeld => ?_)
        simp only [List.size_toArray, List.length_cons, List.length_nil, Array.replicate_succ, Array.replicate_zero, Nat.reduceAdd, List.push_toArray, List.nil_append, List.cons_append]
        have P1 := hid (P0.out.below (below_drew _))
        refine wpAnyH_take (i := 0) (v := (.slice oa on oc)) rfl (by kernel_rfl) (by kernel_rfl) (by kernel_rfl) (fun _ _ _ h => h) (Or.inl ⟨by rfl, ?_⟩) (by assumption) ?_
        · intro w hSw
          (try dsimp only at hSw)
          go_simp
        try simp only [List.getElem_toArray]
        try simp only [List.getElem_cons_succ]
        try simp only [List.getElem_cons_zero]
        try simp only [Act.put]
        try simp only [List.setIfInBounds_toArray]
        try simp only [List.set_cons_succ]
        try simp only [List.set_cons_zero]
        refine wpAnyH_take (i := 1) (v := (.pointer (some ⟨w.heap.size, 0, none⟩))) rfl (by kernel_rfl) (by kernel_rfl) (by kernel_rfl) (fun _ _ _ h => h) (Or.inl ⟨by rfl, ?_⟩) (by assumption) ?_
        · intro w hSw
          (try dsimp only at hSw)
          go_simp
        try simp only [List.getElem_toArray]
        try simp only [List.getElem_cons_succ]
        try simp only [List.getElem_cons_zero]
        try simp only [Act.put]
        try simp only [List.setIfInBounds_toArray]
        try simp only [List.set_cons_succ]
        try simp only [List.set_cons_zero]
        refine wpAnyH_take (i := 2) (v := (.pointer (some ⟨w.heap.size, 0, none⟩))) rfl (by kernel_rfl) (by kernel_rfl) (by kernel_rfl) (fun _ _ _ h => h) (Or.inl ⟨by rfl, ?_⟩) (by assumption) ?_
        · intro w hSw
          (try dsimp only at hSw)
          go_simp
        try simp only [List.getElem_toArray]
        try simp only [List.getElem_cons_succ]
        try simp only [List.getElem_cons_zero]
        try simp only [Act.put]
        try simp only [List.setIfInBounds_toArray]
        try simp only [List.set_cons_succ]
        try simp only [List.set_cons_zero]
        refine wpAnyH_take (i := 3) (v := (.int .i64 c)) rfl (by kernel_rfl) (by kernel_rfl) (by kernel_rfl) (fun _ _ _ h => h) (Or.inl ⟨by rfl, ?_⟩) (by assumption) ?_
        · intro w hSw
          (try dsimp only at hSw)
          go_simp
        try simp only [List.getElem_toArray]
        try simp only [List.getElem_cons_succ]
        try simp only [List.getElem_cons_zero]
        try simp only [Act.put]
        try simp only [List.setIfInBounds_toArray]
        try simp only [List.set_cons_succ]
        try simp only [List.set_cons_zero]
        refine wpAnyH_take (i := 6) (v := (.pointer (some ⟨w.heap.size, 0, none⟩))) rfl (by kernel_rfl) (by kernel_rfl) (by kernel_rfl) (fun _ _ _ h => h) (Or.inl ⟨by rfl, ?_⟩) (by assumption) ?_
        · intro w hSw
          (try dsimp only at hSw)
          go_simp
        try simp only [List.getElem_toArray]
        try simp only [List.getElem_cons_succ]
        try simp only [List.getElem_cons_zero]
        try simp only [Act.put]
        try simp only [List.setIfInBounds_toArray]
        try simp only [List.set_cons_succ]
        try simp only [List.set_cons_zero]
        refine wpAnyH_take (i := 7) (v := (.agg #[.int .i64 c, .int .i64 e, .int .i64 n])) rfl (by kernel_rfl) (by kernel_rfl) (by kernel_rfl) (fun _ _ _ h => h) (Or.inl ⟨by rfl, ?_⟩) (by assumption) ?_
        · intro w hSw
          (try dsimp only at hSw)
          go_simp
        try simp only [List.getElem_toArray]
        try simp only [List.getElem_cons_succ]
        try simp only [List.getElem_cons_zero]
        try simp only [Act.put]
        try simp only [List.setIfInBounds_toArray]
        try simp only [List.set_cons_succ]
        try simp only [List.set_cons_zero]
        refine wpAnyH_ready (rs := [4]) (by kernel_rfl) (by simp) ?_
        refine AllReadyH.cons rfl (fun K1 hK => ?_) AllReadyH.nil
        go_simp
        refine (CL.out _).mono ?_
        rintro r q1 ⟨rfl, hbC⟩
        have P2 := hid (P1.out.below hbC)
        clear P1
        go_wp2_with fail
        refine hK.out _ _ ?_ (fun hHeld => ?_)
        · exact cs3c hbC (by assumption)
        clear hK K1
        try simp only [List.getElem_toArray]
        try simp only [List.getElem_cons_succ]
        try simp only [List.getElem_cons_zero]
        try simp only [Act.put]
        try simp only [List.setIfInBounds_toArray]
        try simp only [List.set_cons_succ]
        try simp only [List.set_cons_zero]
        clear hbC
        refine wpAnyH_take (i := 5) (v := (.string lk)) rfl (by kernel_rfl) (by kernel_rfl) (by kernel_rfl) (fun _ _ _ h => h) (Or.inl ⟨by rfl, ?_⟩) (by assumption) ?_
        · intro w hSw
          (try dsimp only at hSw)
          go_simp
        try simp only [List.getElem_toArray]
        try simp only [List.getElem_cons_succ]
        try simp only [List.getElem_cons_zero]
        try simp only [Act.put]
        try simp only [List.setIfInBounds_toArray]
        try simp only [List.set_cons_succ]
        try simp only [List.set_cons_zero]
        refine wpAnyH_ready (rs := [8]) (by kernel_rfl) (by simp) ?_
        refine AllReadyH.cons rfl (fun K1 hK => ?_) AllReadyH.nil
        go_simp
        refine (CT.out _).mono ?_
        rintro r q2 ⟨rfl, hbC⟩
        have P3 := hid (P2.out.below hbC)
        clear P2
        go_wp2_with fail
        refine hK.out _ _ ?_ (fun hHeld => ?_)
        · exact cs3c hbC (by assumption)
        clear hK K1
        try simp only [List.getElem_toArray]
        try simp only [List.getElem_cons_succ]
        try simp only [List.getElem_cons_zero]
        try simp only [Act.put]
        try simp only [List.setIfInBounds_toArray]
        try simp only [List.set_cons_succ]
        try simp only [List.set_cons_zero]
        clear hbC
        refine wpAnyH_take (i := 9) (v := (.agg #[.string lk, .string tx, .bool false])) rfl (by kernel_rfl) (by kernel_rfl) (by kernel_rfl) (fun _ _ _ h => h) (Or.inl ⟨by rfl, ?_⟩) (by assumption) ?_
        · intro w hSw
          (try dsimp only at hSw)
          go_simp
        try simp only [List.getElem_toArray]
        try simp only [List.getElem_cons_succ]
        try simp only [List.getElem_cons_zero]
        try simp only [Act.put]
        try simp only [List.setIfInBounds_toArray]
        try simp only [List.set_cons_succ]
        try simp only [List.set_cons_zero]
        refine wpAnyH_ready (rs := [10]) (by kernel_rfl) (by simp) ?_
        refine AllReadyH.cons rfl (fun K1 hK => ?_) AllReadyH.nil
        go_simp
        try go_wp2_with fail
        have hbA := below_new (o := .cells #[.string lk, .string tx, .bool false] 72) (w := q2) (Below.refl _ _)
        have P4 := hid (P3.out.below hbA)
        have KB := hid (Bk.new q2 72 (ecs [(lk, tx, false)]))
        clear P3
        refine hK.out _ _ ?_ (fun hHeld => ?_)
        · exact cs3c hbA (by assumption)
        clear hK K1
        try simp only [List.getElem_toArray]
        try simp only [List.getElem_cons_succ]
        try simp only [List.getElem_cons_zero]
        try simp only [Act.put]
        try simp only [List.setIfInBounds_toArray]
        try simp only [List.set_cons_succ]
        try simp only [List.set_cons_zero]
        clear hbA
        obtain ⟨ea, en, ec, q9, hrun, hO9, hG9⟩ := run_append_ed 43 (w.heap.size + 1) _ (pl) P4.out.own q2.heap.size (lk, tx, false) KB.out (by have := HLN.out; omega) (by have h1 := P4.out.kA.lt; omega)
        have P9 := hid (P4.out.app hG9 hO9)
        refine wpAnyH_ready (rs := [11]) (by kernel_rfl) (by simp) ?_
        refine AllReadyH.cons rfl (fun K1 hK => ?_) AllReadyH.nil
        refine step_append_ed _ _ rfl _ _ _ rfl rfl hrun ?_
        refine hK.out _ _ ?_ (fun hHeld => ?_)
        · exact cs3g hG9 (fun p hp q => by
              have h1 := NB.out
              simp only [List.mem_cons, List.not_mem_nil, or_false] at hp
              rcases hp with rfl | rfl | rfl <;> (have h2 := h1 _ q.symm; simp only at h2; omega)) (by assumption)
        clear hK K1
        try simp only [List.getElem_toArray]
        try simp only [List.getElem_cons_succ]
        try simp only [List.getElem_cons_zero]
        try simp only [Act.put]
        try simp only [List.setIfInBounds_toArray]
        try simp only [List.set_cons_succ]
        try simp only [List.set_cons_zero]
        clear hG9 hO9 hrun KB P4
        refine wpAnyH_take (i := 12) (v := (.slice ea en ec)) rfl (by kernel_rfl) (by kernel_rfl) (by kernel_rfl) (fun _ _ _ h => h) (Or.inl ⟨by rfl, ?_⟩) (by assumption) ?_
        · intro w hSw
          (try dsimp only at hSw)
          go_simp
        try simp only [List.getElem_toArray]
        try simp only [List.getElem_cons_succ]
        try simp only [List.getElem_cons_zero]
        try simp only [Act.put]
        try simp only [List.setIfInBounds_toArray]
        try simp only [List.set_cons_succ]
        try simp only [List.set_cons_zero]
        refine wpAnyH_done (by kernel_rfl) ?_ _
        refine NoPanic.normal ?_
        go_wp2
        go_ret
        exact ⟨⟨_, _, _, rfl, by rw [HV.out]; exact P9.out.own.base (Nat.le_succ _)⟩, P9.out.bel⟩
  · have HV : Hid (peV (c, e, n) rl = []) := by show _ = _; rw [peV, if_neg hok]
    have no : prOk (c, e, n) rl = false := by simpa using hok
    rw [no] at C1
    clear no hok HP
    go_enter Tryd.func14, Tryd.ntmps14
    go_wp2_with fail
    refine (C1.out _ (H0.out.below B0.out)).mono ?_
    rintro r w1 ⟨rfl, hb⟩
    have B1 := hid (btE B0.out hb)
    clear hb K0 B0
    go_wp2
    go_ret
    exact ⟨⟨_, _, _, rfl, by rw [HV.out]; exact World.ownsRow_nil _ _ _ _⟩, B1.out⟩
end Go.Proofs.YtgnjknbgahickabDoor
/-
  What the law's helpers do with Preps: sizes summed, copied, held against each other.
-/
namespace Go.Proofs.YtgnjknbgahickabDoor
open Go.RowKit
set_option linter.unusedVariables false
theorem results_prep {fn : Func} {p : Tmp} (h : fn.results = #[.cell p 48]) (tmps : Array Value) (w : World) (g : Nat) {c e n : Int} {v : Value} (hp : tmps.getD p undef = .pointer (some ⟨g, 0, none⟩))
    (c0 : w.cell? ⟨g, 0, none⟩ = some (.int .i64 c)) (c1 : w.cell? ⟨g, 1, none⟩ = some (.int .i64 e)) (c2 : w.cell? ⟨g, 2, none⟩ = some (.int .i64 n)) (c3 : w.cell? ⟨g, 3, none⟩ = some v) : (results fn tmps).run Tryd.prog w = .ok (.agg #[.int .i64 c, .int .i64 e, .int .i64 n, v]) w := by
  have hp' : tmps[p]?.getD undef = .pointer (some ⟨g, 0, none⟩) := by simpa using hp
  have hl : (loadVar 48 ⟨g, 0, none⟩).run Tryd.prog w = .ok (.agg #[.int .i64 c, .int .i64 e, .int .i64 n, v]) w := by go_simp
  simp [results, h, hp', asAddr, hl]
set_option maxHeartbeats 4000000 in
theorem toPrep_any (S : Nat → Prop) (c e n : Int) (ra : Option Addr) (rn rc : Nat) (rl : List RC) (w : World) (h1 : rcR w S (.slice ra rn rc) rl) (hh : rn ≤ 1048576) :
    Calls Tryd.prog 15 #[.agg #[.int .i64 c, .int .i64 e, .int .i64 n, .slice ra rn rc]] w fun r w' => ∃ g0, r = .returned (.agg #[.int .i64 c, .int .i64 e, .int .i64 n, .slice (some ⟨g0, 0, none⟩) rn rn]) ∧ rcW w' w.heap.size (.slice (some ⟨g0, 0, none⟩) rn rn) rl ∧ Below w.heap.size w w' := by
  have HN := hid (Rw.len h1).1
  have HE : Hid (Below w.heap.size w (((w.alloc (.cells #[.int .i64 c, .int .i64 e, .int .i64 n, .slice ra rn rc] 41)).alloc (.cells #[.int .i64 0, .int .i64 0, .int .i64 0, .slice none 0 0] 48)).alloc (.cells #[.int .i64 0, .int .i64 0, .int .i64 0, .slice none 0 0] 48))) := below_new (below_new (below_new (Below.refl _ _)))
  have C1 := hid (fun w => toTx_any c e n w)
  have K0 := hid (((Bk.new w 41 [.int .i64 c, .int .i64 e, .int .i64 n, .slice ra rn rc]).alloc (.cells #[.int .i64 0, .int .i64 0, .int .i64 0, .slice none 0 0] 48)).alloc (.cells #[.int .i64 0, .int .i64 0, .int .i64 0, .slice none 0 0] 48))
  have J0 := hid ((Bk.new (w.alloc (.cells #[.int .i64 c, .int .i64 e, .int .i64 n, .slice ra rn rc] 41)) 48 [.int .i64 0, .int .i64 0, .int .i64 0, .slice none 0 0]).alloc (.cells #[.int .i64 0, .int .i64 0, .int .i64 0, .slice none 0 0] 48))
  have I0 := hid (Bk.new ((w.alloc (.cells #[.int .i64 c, .int .i64 e, .int .i64 n, .slice ra rn rc] 41)).alloc (.cells #[.int .i64 0, .int .i64 0, .int .i64 0, .slice none 0 0] 48)) 48 [.int .i64 0, .int .i64 0, .int .i64 0, .slice none 0 0])
  rw [show (w.alloc (.cells #[.int .i64 c, .int .i64 e, .int .i64 n, .slice ra rn rc] 41)).heap.size = w.heap.size + 1 by simp] at J0
  rw [show ((w.alloc (.cells #[.int .i64 c, .int .i64 e, .int .i64 n, .slice ra rn rc] 41)).alloc (.cells #[.int .i64 0, .int .i64 0, .int .i64 0, .slice none 0 0] 48)).heap.size = w.heap.size + 1 + 1 by simp] at I0
  have H0 := hid h1
  clear h1
  go_enter Tryd.func15, Tryd.ntmps15
  go_wp2_with fail
  refine (C1.out _).mono ?_
  generalize ((w.alloc (.cells #[.int .i64 c, .int .i64 e, .int .i64 n, .slice ra rn rc] 41)).alloc (.cells #[.int .i64 0, .int .i64 0, .int .i64 0, .slice none 0 0] 48)).alloc (.cells #[.int .i64 0, .int .i64 0, .int .i64 0, .slice none 0 0] 48) = U at *
  rintro r w1 ⟨rfl, hb⟩
  have K1 := hid (K0.out.below hb)
  have J1 := hid (J0.out.below hb)
  have I1 := hid (I0.out.below hb)
  have B1 := hid (btR HE.out hb)
  clear hb K0 J0 I0 HE
  have x3 := K1.out.cell (j := 3) rfl
  have y0 := I1.out.cell (j := 0) rfl
  have y1 := I1.out.cell (j := 1) rfl
  have y2 := I1.out.cell (j := 2) rfl
  have f0 := I1.out.free 0
  have f1 := I1.out.free 1
  have f2 := I1.out.free 2
  have d1 : ¬ w.heap.size = w.heap.size + 1 + 1 := by omega
  have I2 : Hid (Bk (((w1.setCell ⟨w.heap.size + 1 + 1, 0, none⟩ (.int .i64 c)).setCell ⟨w.heap.size + 1 + 1, 1, none⟩ (.int .i64 e)).setCell ⟨w.heap.size + 1 + 1, 2, none⟩ (.int .i64 n)) (w.heap.size + 1 + 1) 48 [.int .i64 c, .int .i64 e, .int .i64 n, .slice none 0 0]) := ((I1.out.set 0 _).set 1 _).set 2 _
  have J2 : Hid (Bk (((w1.setCell ⟨w.heap.size + 1 + 1, 0, none⟩ (.int .i64 c)).setCell ⟨w.heap.size + 1 + 1, 1, none⟩ (.int .i64 e)).setCell ⟨w.heap.size + 1 + 1, 2, none⟩ (.int .i64 n)) (w.heap.size + 1) 48 [.int .i64 0, .int .i64 0, .int .i64 0, .slice none 0 0]) := ((J1.out.setOther (by omega) _ _).setOther (by omega) _ _).setOther (by omega) _ _
  have B2 : Hid (Below w.heap.size w (((w1.setCell ⟨w.heap.size + 1 + 1, 0, none⟩ (.int .i64 c)).setCell ⟨w.heap.size + 1 + 1, 1, none⟩ (.int .i64 e)).setCell ⟨w.heap.size + 1 + 1, 2, none⟩ (.int .i64 n))) := ((B1.out.setCell (p := ⟨w.heap.size + 1 + 1, 0, none⟩) (by simp; omega) _).setCell (p := ⟨w.heap.size + 1 + 1, 1, none⟩) (by simp; omega) _).setCell (p := ⟨w.heap.size + 1 + 1, 2, none⟩) (by simp; omega) _
  go_wp2_with fail
  refine (toRecS_at S ra rn rc rl _ (H0.out.below B2.out) hh).mono ?_
  generalize ((w1.setCell ⟨w.heap.size + 1 + 1, 0, none⟩ (.int .i64 c)).setCell ⟨w.heap.size + 1 + 1, 1, none⟩ (.int .i64 e)).setCell ⟨w.heap.size + 1 + 1, 2, none⟩ (.int .i64 n) = V at *
  have SV : Hid (w.heap.size + 1 + 1 < V.heap.size) := I2.out.lt
  generalize hg1 : V.heap.size = g1 at *
  have HG1 := hid hg1
  clear hg1
  rintro r w3 ⟨rfl, hk, hb⟩
  rw [← HG1.out] at hb
  have E3 := hid hk
  have J3 := hid (J2.out.below hb)
  have I3 := hid (I2.out.below hb)
  have B3 := hid (B2.out.trans (hb.mono B2.out.size))
  clear hb hk J2 I2 B2 K1 J1 I1 B1 x3 y0 y1 y2 f0 f1 f2
  have y0 := I3.out.cell (j := 0) rfl
  have y1 := I3.out.cell (j := 1) rfl
  have y2 := I3.out.cell (j := 2) rfl
  have y3 := I3.out.cell (j := 3) rfl
  have f3 := I3.out.free 3
  have z0 := J3.out.cell (j := 0) rfl
  have z1 := J3.out.cell (j := 1) rfl
  have z2 := J3.out.cell (j := 2) rfl
  have z3 := J3.out.cell (j := 3) rfl
  have e0 := J3.out.free 0
  have e1 := J3.out.free 1
  have e2 := J3.out.free 2
  have e3 := J3.out.free 3
  have d2 : ¬ w.heap.size + 1 = w.heap.size + 1 + 1 := by omega
  have d3 : ¬ w.heap.size + 1 + 1 = w.heap.size + 1 := by omega
  have HF : Hid (∀ W, Only (fun y => y = w.heap.size + 1 ∨ y = w.heap.size + 1 + 1) w3 W → rcW W w.heap.size (.slice (some ⟨g1, 0, none⟩) rn rn) rl ∧ Below w.heap.size w W) := fun W hW => by
    have s2 := SV.out
    refine ⟨(rcw_bk (B := w.heap.size) E3.out HN.out (by omega) (by omega)).to hW (fun y hy e => ?_), B3.out.trans (hW.below B3.out.size (fun b hb e => by omega))⟩
    have k1 : g1 = y := Option.some.inj hy
    omega
  clear E3 B3
  go_wp2
  try simp only [Exit.inBlock, Exit.then]
  refine bodyPost_ret (v := .agg #[.int .i64 c, .int .i64 e, .int .i64 n, .slice (some ⟨g1, 0, none⟩) rn rn]) ?_ rfl ?_
  · exact results_prep rfl _ _ (w.heap.size + 1) rfl (by go_simp) (by go_simp) (by go_simp) (by go_simp)
  · refine ⟨g1, rfl, HF.out _ ?_⟩
    exact ((((only_set (R := fun y => y = w.heap.size + 1 ∨ y = w.heap.size + 1 + 1) (.inr rfl) _).trans (only_set (R := fun y => y = w.heap.size + 1 ∨ y = w.heap.size + 1 + 1) (.inl rfl) _)).trans (only_set (R := fun y => y = w.heap.size + 1 ∨ y = w.heap.size + 1 + 1) (.inl rfl) _)).trans (only_set (R := fun y => y = w.heap.size + 1 ∨ y = w.heap.size + 1 + 1) (.inl rfl) _)).trans (only_set (R := fun y => y = w.heap.size + 1 ∨ y = w.heap.size + 1 + 1) (.inl rfl) _)
set_option maxHeartbeats 1600000 in
theorem szPrep_any (S : Nat → Prop) (c e n : Int) (ra : Option Addr) (rn rc : Nat) (rl : List RC) (w : World) (h1 : rcR w S (.slice ra rn rc) rl) (s1 : rcSz rl) :
    Calls Tryd.prog 13 #[.agg #[.int .i64 c, .int .i64 e, .int .i64 n, .slice ra rn rc], .int .i64 1048576] w fun e w' => (∃ x : Int, e = .returned (.int .i64 x) ∧ x ≤ 1048576 ∧ -1 ≤ x ∧ (0 ≤ x → rn ≤ 1048576)) ∧ Below w.heap.size w w' := by
  have B0 := hid (below_new (o := .cells #[.int .i64 c, .int .i64 e, .int .i64 n, .slice ra rn rc] 41) (w := w) (Below.refl _ _))
  have H1 := hid h1
  have S1 := hid s1
  clear h1 s1
  go_enter Tryd.func13, Tryd.ntmps13
  go_wp2_with fail
  refine (szRecS_at S ra rn rc rl 1048576 _ (H1.out.below B0.out) S1.out (by omega) (by omega)).mono ?_
  generalize w.alloc (.cells #[.int .i64 c, .int .i64 e, .int .i64 n, .slice ra rn rc] 41) = U at *
  rintro r w1 ⟨⟨x, rfl, hx1, hx2, hx3⟩, hb⟩
  have B1 := hid (btR B0.out hb)
  have HX := hid hx3
  clear hb B0 hx3
  by_cases hneg : x < 0
  · go_wp2
    go_ret
    exact ⟨⟨_, rfl, by omega, by omega, fun h => by omega⟩, B1.out⟩
  · go_wp2
    go_ret
    exact ⟨⟨_, rfl, by omega, by omega, HX.out⟩, B1.out⟩
set_option maxHeartbeats 1600000 in
theorem eqPrep_same (S S' : Nat → Prop) (c e n : Int) (ra : Option Addr) (rn rc : Nat) (ra' : Option Addr) (rn' rc' : Nat) (rl : List RC) (w : World) (h : rcR w S (.slice ra rn rc) rl) (h' : rcR w S' (.slice ra' rn' rc') rl) :
    Calls Tryd.prog 18 #[.agg #[.int .i64 c, .int .i64 e, .int .i64 n, .slice ra rn rc], .agg #[.int .i64 c, .int .i64 e, .int .i64 n, .slice ra' rn' rc']] w fun r w' => r = .returned (.bool true) ∧ Below w.heap.size w w' := by
  have C1 := hid (fun w => eqTx_same c e n w)
  have B0 := hid (below_new (o := .cells #[.int .i64 c, .int .i64 e, .int .i64 n, .slice ra rn rc] 48) (w := w) (below_new (o := .cells #[.int .i64 c, .int .i64 e, .int .i64 n, .slice ra' rn' rc'] 48) (w := w.alloc (.cells #[.int .i64 c, .int .i64 e, .int .i64 n, .slice ra rn rc] 48)) (Below.refl _ _)))
  have K0 := hid ((Bk.new w 48 [.int .i64 c, .int .i64 e, .int .i64 n, .slice ra rn rc]).alloc (.cells #[.int .i64 c, .int .i64 e, .int .i64 n, .slice ra' rn' rc'] 48))
  have J0 := hid (Bk.new (w.alloc (.cells #[.int .i64 c, .int .i64 e, .int .i64 n, .slice ra rn rc] 48)) 48 [.int .i64 c, .int .i64 e, .int .i64 n, .slice ra' rn' rc'])
  rw [show (w.alloc (.cells #[.int .i64 c, .int .i64 e, .int .i64 n, .slice ra rn rc] 48)).heap.size = w.heap.size + 1 by simp] at J0
  have H0 := hid h
  have H0' := hid h'
  clear h h'
  go_enter Tryd.func18, Tryd.ntmps18
  go_wp2_with fail
  refine (C1.out _).mono ?_
  generalize (w.alloc (.cells #[.int .i64 c, .int .i64 e, .int .i64 n, .slice ra rn rc] 48)).alloc (.cells #[.int .i64 c, .int .i64 e, .int .i64 n, .slice ra' rn' rc'] 48) = U at *
  rintro r w1 ⟨rfl, hb⟩
  have B1 := hid (btR B0.out hb)
  have K1 := hid (K0.out.below hb)
  have J1 := hid (J0.out.below hb)
  clear hb B0 K0 J0
  have x3 := K1.out.cell (j := 3) rfl
  have y3 := J1.out.cell (j := 3) rfl
  go_wp2_with fail
  refine (eqRecS_same S S' ra ra' rn rn' rc rc' rl _ (H0.out.below B1.out) (H0'.out.below B1.out)).mono ?_
  rintro r w2 ⟨rfl, hb⟩
  have B2 := hid (btR B1.out hb)
  clear hb B1 K1 J1 x3 y3
  go_wp2
  go_ret
  exact ⟨rfl, B2.out⟩
end Go.Proofs.YtgnjknbgahickabDoor
/-
  What is known of names of transactions, of locks and of tables of locks that come in as arguments.
-/
namespace Go.Proofs.YtgnjknbgahickabDoor
open Go.ChangeShapes Go.WideShapes Go.ChangeAt Go.RowKit
theorem arrX3 {α : Type} {cs : Array α} (h : cs.size = 3) : ∃ a b c, cs = #[a, b, c] := by
  obtain ⟨l⟩ := cs
  match l, h with
  | [a, b, c], _ => exact ⟨a, b, c, rfl⟩
theorem arrX6 {α : Type} {cs : Array α} (h : cs.size = 6) : ∃ a b c d e f, cs = #[a, b, c, d, e, f] := by
  obtain ⟨l⟩ := cs
  match l, h with
  | [a, b, c, d, e, f], _ => exact ⟨a, b, c, d, e, f, rfl⟩
theorem arrX2 {α : Type} {cs : Array α} (h : cs.size = 2) : ∃ a b, cs = #[a, b] := by
  obtain ⟨l⟩ := cs
  match l, h with
  | [a, b], _ => exact ⟨a, b, rfl⟩
set_option maxRecDepth 100000 in
theorem tx_three : ∃ f0 f1 f2 : Field, Tryd.prog.underlying 38 = some (.struct #[f0, f1, f2]) ∧ f0.type = 3 ∧ f1.type = 3 ∧ f2.type = 3 ∧ f0.offset = 0 ∧ f1.offset = 1 ∧ f2.offset = 2 := ⟨_, _, _, Tryd.underlying38, rfl, rfl, rfl, rfl, rfl, rfl⟩
set_option maxRecDepth 100000 in
theorem open_txc {H : Type} {enc : TypeId × Value → H} {w : World} {base : Nat} {spare : Nat → Bool} {held : Bool} {fuel : Nat} {v0 v1 v2 : Value} {x : DataW H × List MemPlace}
    (h : DataW.trod enc Tryd.prog w base spare held fuel 38 [v0, v1, v2] = some x) : ∃ t : TX, v0 = .int .i64 t.1 ∧ v1 = .int .i64 t.2.1 ∧ v2 = .int .i64 t.2.2 := by
  obtain ⟨f0, f1, f2, hs, t0, t1, t2, o0, o1, o2⟩ := tx_three
  have k0 : Tryd.prog.cellsOf 3 = 1 := by kernel_rfl
  obtain ⟨y0, y1, y2, n', _, _, d0, d1, d2⟩ := Go.Deep.trod_struct3 hs h
  rw [t0, o0, k0] at d0
  rw [t1, o1, k0] at d1
  rw [t2, o2, k0] at d2
  simp at d0 d1 d2
  obtain ⟨s0, e0, _⟩ := DataW.trod_int Tryd.underlying3 d0
  obtain ⟨s1, e1, _⟩ := DataW.trod_int Tryd.underlying3 d1
  obtain ⟨s2, e2, _⟩ := DataW.trod_int Tryd.underlying3 d2
  simp at e0 e1 e2
  exact ⟨(s0, s1, s2), e0, e1, e2⟩
set_option maxRecDepth 100000 in
theorem open_tx {H : Type} {enc : TypeId × Value → H} {w : World} {base : Nat} {spare : Nat → Bool} {held : Bool} {r : Reach} {b0 : Nat} {v : Value} {d : DataW H} {p : List MemPlace}
    (hv : Value.okWide Tryd.prog w r b0 38 v) (h : DataW.Trod enc Tryd.prog w base spare held 38 v d p) : ∃ c e n : Int, v = .agg #[.int .i64 c, .int .i64 e, .int .i64 n] := by
  obtain ⟨f0, f1, f2, hs, t0, t1, t2, o0, o1, o2⟩ := tx_three
  obtain ⟨cs, rfl, hsz⟩ := okWide_struct hs hv
  obtain ⟨c0, c1, c2, rfl⟩ := arrX3 (hsz.trans (by kernel_rfl))
  obtain ⟨fuel, hf⟩ := h
  simp [Value.cells] at hf
  obtain ⟨t, rfl, rfl, rfl⟩ := open_txc hf
  exact ⟨t.1, t.2.1, t.2.2, rfl⟩
end Go.Proofs.YtgnjknbgahickabDoor
/-
  What the law's helpers do with locks, rows of locks and tables: sizes summed, copied, held against each other; rows of one's own.
-/
namespace Go.Proofs.YtgnjknbgahickabDoor
open Go.RowKit
set_option linter.unusedVariables false
theorem ownL_base {w : World} {B B' : Nat} {e : TypeId} {size : Nat} {v : Value} {n : Nat} {xs : List Value} (h : w.ownsRow B e size v n xs) (hB : B' ≤ B) : w.ownsRow B' e size v n xs := by
  refine ⟨h.1, h.2.imp id ?_⟩
  rintro ⟨g, cap, cur, k1, k2, k3⟩
  exact ⟨g, cap, cur, k1, by omega, k3⟩
theorem ownL_bk {w : World} {g B : Nat} {T : TypeId} {xs : List Value} {n size : Nat} (h : Bk w g T xs) (hl : xs.length = n * size) (hn : n ≤ 1048577) (hB : B ≤ g) : w.ownsRow B T size (.slice (some ⟨g, 0, none⟩) n n) n xs :=
  ⟨hl, .inr ⟨g, n, xs.toArray, rfl, hB, h, Nat.le_refl _, by unfold maxLen; omega, by simpa using hl, by simp [← hl]⟩⟩
theorem ownL_set {w : World} {B : Nat} {E : TypeId} {s g n c m : Nat} {xs : List Value} (h : w.ownsRow B E s (.slice (some ⟨g, 0, none⟩) n c) m xs) (j : Nat) (u : Value) : (w.setCell ⟨g, j, none⟩ u).ownsRow B E s (.slice (some ⟨g, 0, none⟩) n c) m (xs.set j u) := by
  obtain ⟨k1, k2⟩ := h
  rcases k2 with ⟨k2, _⟩ | ⟨g', cap, cur, e, k3, k4, k5, k6, k7, k8⟩
  · cases k2
  · cases e
    refine ⟨by simpa using k1, .inr ⟨g, c, cur.setIfInBounds j u, rfl, k3, ?_, k5, k6, by simpa using k7, ?_⟩⟩
    · simp [World.setCell, Array.getElem?_modify, k4]
    · rw [← k8]
      simp only [Array.toList_setIfInBounds, List.take_set]
theorem ownL_at {w : World} {B : Nat} {E : TypeId} {s : Nat} {a : Option Addr} {n c m : Nat} {xs : List Value} (h : w.ownsRow B E s (.slice a n c) m xs) : n = m ∧ n ≤ c ∧ c ≤ 9223372036854775807 ∧ (0 < n → ∃ g, a = some ⟨g, 0, none⟩ ∧ B ≤ g ∧ g < w.heap.size ∧ (∀ o, w.frozen? ⟨g, o, none⟩ = false) ∧ ∀ (j : Nat) u, xs[j]? = some u → w.cell? ⟨g, j, none⟩ = some u) := by
  have hc := fun g hg => World.ownsRow.cells h (g := g) hg
  have hlt := World.ownsRow.lt h
  rcases h.2 with ⟨e, e2⟩ | ⟨g, cap, cur, e, hB, hg, k5, k6, k7, k8⟩
  · cases e; exact ⟨e2.symm, Nat.le_refl _, by omega, fun h => by omega⟩
  · have e2 : a = some ⟨g, 0, none⟩ ∧ n = m ∧ c = cap := by cases e; exact ⟨rfl, rfl, rfl⟩
    obtain ⟨rfl, rfl, rfl⟩ := e2
    refine ⟨rfl, k5, by unfold maxLen at k6; omega, fun _ => ⟨g, rfl, hB, (hlt g rfl).2, fun o => by simp [World.frozen?, hg], fun j u hu => ?_⟩⟩
    have := hc g rfl j u hu
    rwa [Addr.add_lit, Nat.zero_add] at this
end Go.Proofs.YtgnjknbgahickabDoor
/-
  What the law's helper markText does: it answers with one text for each number (for trees: greater numbers).
-/
namespace Go.Proofs.YtgnjknbgahickabDoor
open Go.RowKit
theorem strOf_size (o : List Int) : (strOf o).size = o.length := by
  show (strOf o).data.size = o.length
  simp [strOf]
theorem rd_lit (w : World) (z : Int) (h0 : 0 ≤ z) (h1 : z ≤ 255) : Rd (w.alloc (.cells #[.int .u8 z] 5)) (some ⟨w.heap.size, 0, none⟩) 1 1 [z] := by
  have := rd_new w [z] (by simp) (fun i => by cases i <;> simp <;> omega)
  simpa [byteVals] using this
/-- The decimal digits of k ahead of acc. -/
def mtG : Nat → Nat → ByteArray → ByteArray
  | 0, _, acc => acc
  | f + 1, k, acc => if k = 0 then acc else mtG f (k / 10) (strOf [48 + ((k % 10 : Nat) : Int)] ++ acc)
theorem mtG_end (f : Nat) (acc : ByteArray) : mtG f 0 acc = acc := by cases f <;> simp [mtG]
theorem mtG_step (f k : Nat) (acc : ByteArray) (h : 0 < k) : mtG (f + 1) k acc = mtG f (k / 10) (strOf [48 + ((k % 10 : Nat) : Int)] ++ acc) := by
  simp [mtG]; omega
/-- The text for k. -/
def mt (k : Nat) : ByteArray := ⟨#[109]⟩ ++ mtG k k ⟨#[]⟩
set_option maxHeartbeats 4000000 in
theorem markText_any (k : Nat) (w : World) (h0 : 0 < k) (h1 : k ≤ 1152921504606846976) : Calls Tryd.prog 47 #[.int .i64 k] w fun e w' => e = .returned (.string (mt k)) ∧ Below w.heap.size w w' := by
  have h0' : ¬ (k : Int) ≤ 0 := by omega
  go_enter Tryd.func47, Tryd.ntmps47
  go_wp2_with fail
  go_loopw [0, 3] (fun x s wr => ∃ (j f : Nat) (acc : ByteArray), x = .int .i64 j ∧ s = .string acc ∧ j ≤ f ∧ Hid (mtG f j acc = mtG k k ⟨#[]⟩) ∧ j + acc.size ≤ k ∧ Hid (Below w.heap.size w wr)) (fun x _ _ => (intOf x).toNat)
  case atStart => exact ⟨k, k, ⟨#[]⟩, rfl, rfl, Nat.le_refl _, rfl, Nat.le_refl _, Below.refl _ _⟩
  case round =>
    obtain ⟨j, f, acc, rfl, rfl, hjf, HM, hsz, HB⟩ := hrel
    rcases Nat.eq_zero_or_pos j with rfl | hj
    · rw [mtG_end] at HM
      have hcat : (⟨#[109]⟩ : ByteArray).size = 1 := rfl
      have HE : Hid (⟨#[109]⟩ ++ acc = mt k) := by show ⟨#[109]⟩ ++ acc = mt k; rw [HM.out]; rfl
      go_wp2
      go_ret
      exact ⟨by rw [HE.out]; rfl, HB.out⟩
    · obtain ⟨f, rfl⟩ : ∃ g, f = g + 1 := ⟨f - 1, by omega⟩
      rw [mtG_step f j acc hj] at HM
      have hj' : (0 : Int) < (j : Int) := by omega
      obtain ⟨z, hz⟩ : ∃ z : Nat, z = j % 10 := ⟨_, rfl⟩
      obtain ⟨q, hq⟩ : ∃ q : Nat, q = j / 10 := ⟨_, rfl⟩
      rw [← hz, ← hq] at HM
      have hz1 : z < 10 := by omega
      have hmod : (j : Int).tmod 10 = (z : Int) := by rw [Int.tmod_eq_emod_of_nonneg (by omega)]; omega
      have hdiv : (j : Int).tdiv 10 = (q : Int) := by rw [Int.tdiv_eq_ediv_of_nonneg (by omega)]; omega
      have hqj : q < j := by omega
      have hq2 : q + 1 ≤ j := by omega
      clear hz hq
      have hst := run_str (rd_lit wr (48 + (z : Int)) (by omega) (by omega))
      have hts := strOf_size [48 + (z : Int)]
      simp only [List.length_cons, List.length_nil] at hts
      generalize strOf [48 + (z : Int)] = t at *
      go_wp2
      go_roundw
      case rel => exact ⟨q, f, t ++ acc, by go_num, rfl, by omega, HM, by rw [ByteArray.size_append]; omega, HB.out.alloc HB.out.size _⟩
      case measure => simp [intOf]; omega
theorem markText_at (k : Nat) (z : Int) (hz : z = k) (w : World) (h0 : 0 < k) (h1 : k ≤ 1152921504606846976) : Calls Tryd.prog 47 #[.int .i64 z] w fun e w' => e = .returned (.string (mt k)) ∧ Below w.heap.size w w' := by
  subst hz
  exact markText_any k w h0 h1
end Go.Proofs.YtgnjknbgahickabDoor
/-
  The law's helpers that write marks into rows of edits and of records and look whether they are still there.
-/
namespace Go.Proofs.YtgnjknbgahickabDoor
open Go.RowKit
set_option linter.unusedVariables false
/-- The marks from q on. -/
def em1 (q : Nat) : ED := (mt q, mt (q + 1), decide ((q + 2) % 3 = 0))
/-- The marks from k on stand in the row. -/
def EM (w : World) (B : Nat) (v : Value) (n k : Nat) : Prop := ∃ ys : List ED, ys.length = n ∧ (∀ i, i < n → eAt ys i = em1 (k + i * 3)) ∧ w.ownsRow B 72 3 v n (ecs ys)
theorem EM.to {w w' : World} {B : Nat} {R : Nat → Prop} {v : Value} {n k : Nat} (h : EM w B v n k) (ho : Only R w w') (hR : ∀ y, v.ownBlock = some y → ¬ R y) : EM w' B v n k := by
  obtain ⟨ys, h1, h2, h3⟩ := h
  exact ⟨ys, h1, h2, own_kept h3 ho hR⟩
theorem EM.below {w w' : World} {B : Nat} {v : Value} {n k : Nat} (h : EM w B v n k) (hb : Below w.heap.size w w') : EM w' B v n k := h.to (only_of_below hb (fun _ => False)) (fun _ _ h => h)
theorem eAt_set {l : List ED} {j : Nat} {x : ED} (h : j < l.length) : eAt (l.set j x) j = x := by simp [eAt, h]
theorem eAt_other {l : List ED} {i j : Nat} {x : ED} (h : i ≠ j) : eAt (l.set j x) i = eAt l i := by simp [eAt, Ne.symm h]
theorem only_blkE {R : Nat → Prop} {w v : World} (h : Only R w v) (g o : Nat) (u : Value) (hR : R g) : Only R w (v.setCell ⟨g, o, none⟩ u) := h.trans (only_set (p := ⟨g, o, none⟩) hR u)
set_option maxHeartbeats 4000000 in
theorem markEditS_ex (B : Nat) (a : Option Addr) (n c k : Nat) (l : List ED) (w : World) (h : EdW w B (.slice a n c) l) (hn : n ≤ 1048577) (hk0 : 0 < k) (hk : k ≤ 1000000000) :
    Calls Tryd.prog 20 #[.slice a n c, .int .i64 k] w fun e w' => e = .returned (.int .i64 ((k + n * 3 : Nat) : Int)) ∧ EM w' B (.slice a n c) n k ∧ Only (fun y => (Value.slice a n c).ownBlock = some y) w w' := by
  have hl := (ownL_at h).1
  have h' : w.ownsRow B 72 3 (.slice a n c) l.length (ecs l) := h
  rw [← hl] at h'
  have H0 := hid h'
  have HL := hid hl
  have hnc := (ownL_at h).2.1
  have hcc := (ownL_at h).2.2.1
  clear h h' hl
  go_enter Tryd.func20, Tryd.ntmps20
  go_wp2_with fail
  go_loopw [1, 5] (fun x i wr => ∃ (j : Nat) (ys : List ED), x = .int .i64 ((k + j * 3 : Nat) : Int) ∧ i = .int .i64 j ∧ j ≤ n ∧ Hid (wr.ownsRow B 72 3 (.slice a n c) n (ecs ys)) ∧ Hid (ys.length = n ∧ ∀ i, i < j → eAt ys i = em1 (k + i * 3)) ∧ Hid (Only (fun y => (Value.slice a n c).ownBlock = some y) w wr)) (fun _ i _ => n - (intOf i).toNat)
  case atStart => exact ⟨0, l, rfl, rfl, Nat.zero_le _, H0.out, ⟨HL.out.symm, fun i hi => absurd hi (Nat.not_lt_zero _)⟩, Only.refl _ _⟩
  case round =>
    clear H0 HL
    obtain ⟨j, ys, rfl, rfl, hj, KB, KM, KO⟩ := hrel
    by_cases hlt : j < n
    · have hlt' : (j : Int) < (n : Int) := by omega
      obtain ⟨-, -, -, hat⟩ := ownL_at KB.out
      obtain ⟨g, hg, -, hgw, hfree, hcell⟩ := hat (by omega)
      subst hg
      clear hat hfree hcell
      generalize hkz : k + j * 3 = kz
      have hkz0 : 0 < kz := by omega
      have hkz1 : kz ≤ 1007000000 := by omega
      have HK := hid hkz
      clear hkz
      have HY := hid KM.out.1
      have HAT := hid (ecs_at ys j (by rw [HY.out]; exact hlt))
      have FR : Hid (∀ (v : World) (xs : List Value), v.ownsRow B 72 3 (.slice (some ⟨g, 0, none⟩) n c) n xs → (∀ o, v.frozen? ⟨g, o, none⟩ = false) ∧ ∀ (i : Nat) u, xs[i]? = some u → v.cell? ⟨g, i, none⟩ = some u) := fun v xs hv => by
        obtain ⟨g', e, -, -, h3, h4⟩ := (ownL_at hv).2.2.2 (by omega)
        have e' : g' = g := by cases e; rfl
        subst e'
        exact ⟨h3, h4⟩
      generalize eAt ys j = old at HAT
      obtain ⟨ok, ov, ob⟩ := old
      go_wp2_with fail
      refine (markText_at kz (kz : Int) rfl wr hkz0 (by omega)).mono ?_
      rintro e w1 ⟨rfl, hb⟩
      have B1 := hid (own_kept KB.out (only_of_below hb (fun _ => False)) (fun _ _ h => h))
      have O1 := hid (KO.out.trans (only_of_below hb _))
      clear hb KB KO
      have c0 := (FR.out w1 _ B1.out).2 (j * 3) (.string ok) HAT.out.1
      have f0 := (FR.out w1 _ B1.out).1 (j * 3)
      have B2 := hid (ownL_set B1.out (j * 3) (.string (mt kz)))
      have O2 : Hid (Only (fun y => (Value.slice (some ⟨g, 0, none⟩) n c).ownBlock = some y) w (w1.setCell ⟨g, j * 3, none⟩ (.string (mt kz)))) := only_blkE O1.out g _ _ rfl
      clear B1 O1
      generalize hm0 : mt kz = m0 at *
      have HM0 := hid hm0
      clear hm0
      go_wp2_with fail
      refine (markText_at (kz + 1) ((kz : Int) + 1) (by omega) _ (by omega) (by omega)).mono ?_
      generalize w1.setCell ⟨g, j * 3, none⟩ (.string m0) = w2 at *
      rintro e w3 ⟨rfl, hb⟩
      have B6 := hid (own_kept B2.out (only_of_below hb (fun _ => False)) (fun _ _ h => h))
      have O6 := hid (O2.out.trans (only_of_below hb _))
      clear hb B2 O2 c0 f0
      have c4 := (FR.out w3 _ B6.out).2 (j * 3 + 1) (.string ov) (by rw [List.getElem?_set_ne (by omega)]; exact HAT.out.2.1)
      have c5 := (FR.out w3 _ B6.out).2 (j * 3 + 2) (.bool ob) (by rw [List.getElem?_set_ne (by omega)]; exact HAT.out.2.2)
      have f4 := (FR.out w3 _ B6.out).1 (j * 3 + 1)
      have f5 := (FR.out w3 _ B6.out).1 (j * 3 + 2)
      generalize hm4 : mt (kz + 1) = m4 at *
      have HM4 := hid hm4
      clear hm4
      have HF : Hid (∀ b : Bool, b = decide ((kz + 2) % 3 = 0) → ∃ zs : List ED, ((w3.setCell ⟨g, j * 3 + 1, none⟩ (.string m4)).setCell ⟨g, j * 3 + 2, none⟩ (.bool b)).ownsRow B 72 3 (.slice (some ⟨g, 0, none⟩) n c) n (ecs zs) ∧ (zs.length = n ∧ ∀ i, i < j + 1 → eAt zs i = em1 (k + i * 3)) ∧ Only (fun y => (Value.slice (some ⟨g, 0, none⟩) n c).ownBlock = some y) w ((w3.setCell ⟨g, j * 3 + 1, none⟩ (.string m4)).setCell ⟨g, j * 3 + 2, none⟩ (.bool b))) := fun b hbb => by
        refine ⟨ys.set j (em1 kz), ?_, ⟨by simp [HY.out], fun i hi => ?_⟩, only_blkE (only_blkE O6.out g _ _ rfl) g _ _ rfl⟩
        · rw [ecs_set _ _ _ (by rw [HY.out]; exact hlt)]
          have := ownL_set (ownL_set B6.out (j * 3 + 1) (.string m4)) (j * 3 + 2) (.bool b)
          rw [← HM0.out, ← HM4.out, hbb] at this
          rw [← HM4.out, hbb]
          exact this
        · by_cases e : i = j
          · subst e
            rw [eAt_set (by rw [HY.out]; exact hlt), HK.out]
          · rw [eAt_other e]
            exact KM.out.2 i (by omega)
      clear B6 O6 HAT KM FR
      obtain ⟨r, hr⟩ : ∃ r : Nat, r = (kz + 2) % 3 := ⟨_, rfl⟩
      have hrem : ((kz : Int) + 1 + 1).tmod 3 = (r : Int) := by rw [Int.tmod_eq_emod_of_nonneg (by omega)]; omega
      rw [← hr] at HF
      have hr3 : r = 0 ∨ r = 1 ∨ r = 2 := by omega
      clear hr
      rcases hr3 with rfl | rfl | rfl
      · obtain ⟨zs, z1, z2, z3⟩ := HF.out true rfl
        have Z1 := hid z1
        have Z2 := hid z2
        have Z3 := hid z3
        clear z1 z2 z3 HF
        go_wp2
        go_roundw
        case rel => exact ⟨j + 1, zs, by rw [← HK.out]; congr 1; omega, by go_num, by omega, Z1, Z2, Z3⟩
        case measure => simp [intOf]; omega
      · obtain ⟨zs, z1, z2, z3⟩ := HF.out false rfl
        have Z1 := hid z1
        have Z2 := hid z2
        have Z3 := hid z3
        clear z1 z2 z3 HF
        go_wp2
        go_roundw
        case rel => exact ⟨j + 1, zs, by rw [← HK.out]; congr 1; omega, by go_num, by omega, Z1, Z2, Z3⟩
        case measure => simp [intOf]; omega
      · obtain ⟨zs, z1, z2, z3⟩ := HF.out false rfl
        have Z1 := hid z1
        have Z2 := hid z2
        have Z3 := hid z3
        clear z1 z2 z3 HF
        go_wp2
        go_roundw
        case rel => exact ⟨j + 1, zs, by rw [← HK.out]; congr 1; omega, by go_num, by omega, Z1, Z2, Z3⟩
        case measure => simp [intOf]; omega
    · have HE : Hid (j = n) := by show _ = _; omega
      go_wp2
      go_ret
      exact ⟨by rw [HE.out]; rfl, ⟨ys, KM.out.1, fun i hi => KM.out.2 i (by rw [HE.out]; exact hi), KB.out⟩, KO.out⟩
set_option maxHeartbeats 4000000 in
theorem heldEditS_any (B : Nat) (a : Option Addr) (n c k : Nat) (w : World) (h : EM w B (.slice a n c) n k) (hn : n ≤ 1048577) (hk0 : 0 < k) (hk : k ≤ 1000000000) :
    Calls Tryd.prog 21 #[.slice a n c, .int .i64 k] w fun e w' => e = .returned (.int .i64 ((k + n * 3 : Nat) : Int)) ∧ Below w.heap.size w w' := by
  have H0 := hid h
  have hcc : n ≤ c ∧ c ≤ 9223372036854775807 := by
    obtain ⟨ys, -, -, hr⟩ := h
    exact ⟨(ownL_at hr).2.1, (ownL_at hr).2.2.1⟩
  clear h
  go_enter Tryd.func21, Tryd.ntmps21
  go_wp2_with fail
  go_loopw [1, 5] (fun x i wr => ∃ j : Nat, x = .int .i64 ((k + j * 3 : Nat) : Int) ∧ i = .int .i64 j ∧ j ≤ n ∧ Hid (Below w.heap.size w wr)) (fun _ i _ => n - (intOf i).toNat)
  case atStart => exact ⟨0, rfl, rfl, Nat.zero_le _, Below.refl _ _⟩
  case round =>
    obtain ⟨j, rfl, rfl, hj, HB⟩ := hrel
    by_cases hlt : j < n
    · have hlt' : (j : Int) < (n : Int) := by omega
      obtain ⟨ys, hy1, hy2, hrow⟩ := H0.out.below HB.out
      obtain ⟨g, hg, -, -, -, hcell⟩ := (ownL_at hrow).2.2.2 (by omega)
      subst hg
      obtain ⟨q3, q4, q5⟩ := ecs_at ys j (by rw [hy1]; exact hlt)
      have hm := hy2 j hlt
      generalize hkz : k + j * 3 = kz at *
      have hkz0 : 0 < kz := by omega
      have hkz1 : kz ≤ 1007000000 := by omega
      have HK := hid hkz
      rw [hm] at q3 q4 q5
      simp only [em1] at q3 q4 q5
      have c3 := hcell _ _ q3
      have c4 := hcell _ _ q4
      have c5 := hcell _ _ q5
      clear q3 q4 q5 hcell hm hkz hrow hy2 hy1
      have HT3 := hid (fun w => markText_at kz (kz : Int) rfl w hkz0 (by omega))
      have HT4 := hid (fun w => markText_at (kz + 1) ((kz : Int) + 1) (by omega) w (by omega) (by omega))
      generalize mt kz = m3 at *
      generalize mt (kz + 1) = m4 at *
      have T0 := hid (kl2_0 c3 c4)
      have t3 : (m3.toList != m3.toList) = false := by simp
      have t4 : (m4.toList != m4.toList) = false := by simp
      have K5 := hid c5
      clear c3 c4 c5
      go_wp2_with fail
      go_region_held3 (fun v => v.cell? ⟨g, j * 3, none⟩ = some (.string m3) ∧ v.cell? ⟨g, j * 3 + 1, none⟩ = some (.string m4) ∧ KL wr v [(⟨g, j * 3, none⟩, .string m3), (⟨g, j * 3 + 1, none⟩, .string m4)])
        (first | assumption | exact kl2 (T0.out.call (below_drew _)) | exact kl2c hbC (by assumption))
        (first | (go_at_call 47; refine (HT3.out _).mono ?_; rintro e w1 ⟨rfl, hbC⟩))
      rename_i hS
      have T1 := hid (hS.2.2)
      clear hS hbC
      go_wp2_with fail
      go_region_held3 (fun v => v.cell? ⟨g, j * 3, none⟩ = some (.string m3) ∧ v.cell? ⟨g, j * 3 + 1, none⟩ = some (.string m4) ∧ KL wr v [(⟨g, j * 3, none⟩, .string m3), (⟨g, j * 3 + 1, none⟩, .string m4)])
        (first | assumption | exact kl2 (T1.out.call (below_drew _)) | exact kl2c hbC (by assumption))
        (first | (go_at_call 47; refine (HT4.out _).mono ?_; rintro e w2 ⟨rfl, hbC⟩))
      rename_i hS
      have B2 := hid (HB.out.trans ((kl2_bel hS).mono HB.out.size))
      have c5 := ((kl2_bel hS).cell (p := ⟨g, j * 3 + 2, none⟩) (block_lt K5.out)).trans K5.out
      clear hS T0 T1 HT3 HT4 K5
      obtain ⟨r, hr⟩ : ∃ r : Nat, r = (kz + 2) % 3 := ⟨_, rfl⟩
      have hrem : ((kz : Int) + 1 + 1).tmod 3 = (r : Int) := by rw [Int.tmod_eq_emod_of_nonneg (by omega)]; omega
      rw [← hr] at c5
      have hr3 : r = 0 ∨ r = 1 ∨ r = 2 := by omega
      clear hr
      rcases hr3 with rfl | rfl | rfl
      all_goals (simp at c5; go_wp2; go_roundw)
      case rel => exact ⟨j + 1, by rw [← HK.out]; congr 1; omega, by go_num, by omega, B2.out⟩
      case measure => simp [intOf]; omega
      case rel => exact ⟨j + 1, by rw [← HK.out]; congr 1; omega, by go_num, by omega, B2.out⟩
      case measure => simp [intOf]; omega
      case rel => exact ⟨j + 1, by rw [← HK.out]; congr 1; omega, by go_num, by omega, B2.out⟩
      case measure => simp [intOf]; omega
    · have HE : Hid (j = n) := by show _ = _; omega
      go_wp2
      go_ret
      exact ⟨by rw [HE.out]; rfl, HB.out⟩
end Go.Proofs.YtgnjknbgahickabDoor
/-
  markRecS, markPrep: the row's cells turn, nothing else.
-/
namespace Go.Proofs.YtgnjknbgahickabDoor
open Go.RowKit
set_option linter.unusedVariables false
set_option maxHeartbeats 4000000 in
theorem markRecS_any (g n k : Nat) (xs : List Value) (w : World) (h : Bk w g 30 xs) (hl : xs.length = n * 5) (hn : n ≤ 1048576) (hk0 : 0 < k) (hk : k ≤ 576460752303423488) :
    Calls Tryd.prog 46 #[.slice (some ⟨g, 0, none⟩) n n, .int .i64 k] w fun e w' => e = .returned (.int .i64 ((k + n * 5 : Nat) : Int)) ∧ Only (fun y => y = g) w w' := by
  have HB := hid h
  have HL := hid hl
  clear h hl
  go_enter Tryd.func46, Tryd.ntmps46
  go_wp2_with fail
  go_loopw [1, 5] (fun x i wr => ∃ (j : Nat) (ys : List Value), x = .int .i64 ((k + j * 5 : Nat) : Int) ∧ i = .int .i64 j ∧ j ≤ n ∧ Hid (Bk wr g 30 ys) ∧ Hid (ys.length = n * 5) ∧ Hid (Only (fun y => y = g) w wr)) (fun _ i _ => n - (intOf i).toNat)
  case atStart => exact ⟨0, xs, rfl, rfl, Nat.zero_le _, HB.out, HL.out, Only.refl _ _⟩
  case round =>
    clear HB HL
    obtain ⟨j, ys, rfl, rfl, hj, KB, KL, KO⟩ := hrel
    by_cases hlt : j < n
    · have hlt' : (j : Int) < (n : Int) := by omega
      generalize hkz : k + j * 5 = kz
      have hkz0 : 0 < kz := by omega
      have hkz1 : kz ≤ 576460757500575488 := by omega
      have HK := hid hkz
      clear hkz
      have AT : Hid (∀ (v : World) (zs : List Value), Bk v g 30 zs → zs.length = n * 5 → ∀ o, o < 5 → (∃ u, v.cell? ⟨g, j * 5 + o, none⟩ = some u) ∧ v.frozen? ⟨g, j * 5 + o, none⟩ = false) := fun v zs hv hz o ho => ⟨⟨zs[j * 5 + o]'(by omega), hv.cell (by simp [show j * 5 + o < zs.length by omega])⟩, hv.free _⟩
      obtain ⟨⟨u0, c0⟩, f0⟩ := AT.out wr ys KB.out KL.out 0 (by omega)
      have B0 := hid (KB.out.set (j * 5) (.int .i64 (kz : Int)))
      have O0 : Hid (Only (fun y => y = g) w (wr.setCell ⟨g, j * 5, none⟩ (.int .i64 (kz : Int)))) := KO.out.trans (only_set (R := fun y => y = g) rfl _)
      have L0 : Hid ((ys.set (j * 5) (.int .i64 (kz : Int))).length = n * 5) := by show _ = _; simp [KL.out]
      simp only [Nat.add_zero] at c0 f0
      go_wp2_with fail
      refine (markText_at (kz + 1) ((kz : Int) + 1) (by omega) _ (by omega) (by omega)).mono ?_
      generalize wr.setCell ⟨g, j * 5, none⟩ (.int .i64 (kz : Int)) = V0 at *
      generalize ys.set (j * 5) (.int .i64 (kz : Int)) = y0 at *
      rintro e w1 ⟨rfl, hb⟩
      have B1 := hid (B0.out.below hb)
      have O1 := hid (O0.out.trans (only_of_below hb _))
      clear hb KB KO KL B0 O0 c0 f0
      generalize mt (kz + 1) = m1 at *
      obtain ⟨⟨u1, c1⟩, f1⟩ := AT.out w1 y0 B1.out L0.out 1 (by omega)
      have A1 := hid (B1.out.set (j * 5 + 1) (.string m1))
      have P1 : Hid (Only (fun y => y = g) w (w1.setCell ⟨g, j * 5 + 1, none⟩ (.string m1))) := O1.out.trans (only_set (R := fun y => y = g) rfl _)
      have L1 : Hid ((y0.set (j * 5 + 1) (.string m1)).length = n * 5) := by show _ = _; simp [L0.out]
      go_wp2_with fail
      refine (markText_at (kz + 2) ((kz : Int) + 1 + 1) (by omega) _ (by omega) (by omega)).mono ?_
      generalize w1.setCell ⟨g, j * 5 + 1, none⟩ (.string m1) = V1 at *
      generalize y0.set (j * 5 + 1) (.string m1) = y1 at *
      rintro e w2 ⟨rfl, hb⟩
      have B2 := hid (A1.out.below hb)
      have O2 := hid (P1.out.trans (only_of_below hb _))
      clear hb A1 P1 B1 O1 c1 f1
      generalize mt (kz + 2) = m2 at *
      obtain ⟨⟨u2, c2⟩, f2⟩ := AT.out w2 y1 B2.out L1.out 2 (by omega)
      have A2 := hid (B2.out.set (j * 5 + 2) (.string m2))
      have P2 : Hid (Only (fun y => y = g) w (w2.setCell ⟨g, j * 5 + 2, none⟩ (.string m2))) := O2.out.trans (only_set (R := fun y => y = g) rfl _)
      have L2 : Hid ((y1.set (j * 5 + 2) (.string m2)).length = n * 5) := by show _ = _; simp [L1.out]
      go_wp2_with fail
      refine (markText_at (kz + 3) ((kz : Int) + 1 + 1 + 1) (by omega) _ (by omega) (by omega)).mono ?_
      generalize w2.setCell ⟨g, j * 5 + 2, none⟩ (.string m2) = V2 at *
      generalize y1.set (j * 5 + 2) (.string m2) = y2 at *
      rintro e w3 ⟨rfl, hb⟩
      have B3 := hid (A2.out.below hb)
      have O3 := hid (P2.out.trans (only_of_below hb _))
      clear hb A2 P2 B2 O2 c2 f2
      generalize mt (kz + 3) = m3 at *
      obtain ⟨⟨u3, c3⟩, f3⟩ := AT.out w3 y2 B3.out L2.out 3 (by omega)
      have A3 := hid (B3.out.set (j * 5 + 3) (.string m3))
      have P3 : Hid (Only (fun y => y = g) w (w3.setCell ⟨g, j * 5 + 3, none⟩ (.string m3))) := O3.out.trans (only_set (R := fun y => y = g) rfl _)
      have L3 : Hid ((y2.set (j * 5 + 3) (.string m3)).length = n * 5) := by show _ = _; simp [L2.out]
      go_wp2_with fail
      refine (markText_at (kz + 4) ((kz : Int) + 1 + 1 + 1 + 1) (by omega) _ (by omega) (by omega)).mono ?_
      generalize w3.setCell ⟨g, j * 5 + 3, none⟩ (.string m3) = V3 at *
      generalize y2.set (j * 5 + 3) (.string m3) = y3 at *
      rintro e w4 ⟨rfl, hb⟩
      have B4 := hid (A3.out.below hb)
      have O4 := hid (P3.out.trans (only_of_below hb _))
      clear hb A3 P3 B3 O3 c3 f3
      generalize mt (kz + 4) = m4 at *
      obtain ⟨⟨u4, c4⟩, f4⟩ := AT.out w4 y3 B4.out L3.out 4 (by omega)
      have A4 := hid (B4.out.set (j * 5 + 4) (.string m4))
      have P4 : Hid (Only (fun y => y = g) w (w4.setCell ⟨g, j * 5 + 4, none⟩ (.string m4))) := O4.out.trans (only_set (R := fun y => y = g) rfl _)
      have L4 : Hid ((y3.set (j * 5 + 4) (.string m4)).length = n * 5) := by show _ = _; simp [L3.out]
      go_wp2
      go_roundw
      case rel => exact ⟨j + 1, _, by rw [← HK.out]; congr 1; omega, by go_num, by omega, A4, L4, P4⟩
      case measure => simp [intOf]; omega
    · have HE : Hid (j = n) := by show _ = _; omega
      go_wp2
      go_ret
      exact ⟨by rw [HE.out]; rfl, KO.out⟩
set_option maxHeartbeats 1600000 in
theorem markPrep_any (c e n : Int) (g rn k : Nat) (rl : List RC) (w : World) (h : rcW w 0 (.slice (some ⟨g, 0, none⟩) rn rn) rl) (hb : Bk w g 30 (rccs rl)) (hn : rn ≤ 1048576) (hk0 : 0 < k) (hk : k ≤ 1000) :
    Calls Tryd.prog 19 #[.agg #[.int .i64 c, .int .i64 e, .int .i64 n, .slice (some ⟨g, 0, none⟩) rn rn], .int .i64 k] w fun r w' => r = .returned (.int .i64 ((k + rn * 5 : Nat) : Int)) ∧ Only (fun y => y = g) w w' := by
  have HL := hid (Rw.len h.r).1
  have hal := below_new (o := .cells #[.int .i64 c, .int .i64 e, .int .i64 n, .slice (some ⟨g, 0, none⟩) rn rn] 48) (w := w) (Below.refl _ _)
  have B0 := hid hal
  have K0 := hid (hb.below hal)
  have C1 := hid (markRecS_any g rn k (rccs rl) _ K0.out (by rw [rccs_length, HL.out]) hn hk0 (by omega))
  clear h hb hal
  go_enter Tryd.func19, Tryd.ntmps19
  go_wp2_with fail
  refine C1.out.mono ?_
  rintro r w1 ⟨rfl, ho⟩
  have O1 := hid ((only_of_below B0.out (fun y => y = g)).trans ho)
  clear ho B0 K0 C1
  go_wp2
  go_ret
  exact ⟨rfl, O1.out⟩
end Go.Proofs.YtgnjknbgahickabDoor
/-
  The law FnExactPrepOk answers true at every Prep; what the laws over a Prep keep at hand.
-/
namespace Go.Proofs.YtgnjknbgahickabDoor
open Go.RowKit
set_option linter.unusedVariables false
/-- The law's own Prep, in its box, its row below. -/
structure PX (w v : World) (g : Nat) (c e n : Int) (ra : Option Addr) (rn rc : Nat) (rl : List RC) : Prop where
  bel : Below w.heap.size w v
  le : w.heap.size ≤ g
  kA : Bk v g 41 [.int .i64 c, .int .i64 e, .int .i64 n, .slice ra rn rc]
  hA : rcR v (fun b => b < w.heap.size) (.slice ra rn rc) rl
theorem PX.below {w v v' : World} {g : Nat} {c e n : Int} {ra : Option Addr} {rn rc : Nat} {rl : List RC} (h : PX w v g c e n ra rn rc rl) (hb : Below v.heap.size v v') : PX w v' g c e n ra rn rc rl := ⟨btR h.bel hb, h.le, h.kA.below hb, h.hA.below hb⟩
theorem PX.only {w v v' : World} {g : Nat} {c e n : Int} {ra : Option Addr} {rn rc : Nat} {rl : List RC} (h : PX w v g c e n ra rn rc rl) {R : Nat → Prop} (ho : Only R v v') (hR : ∀ b, R b → g < b) : PX w v' g c e n ra rn rc rl :=
  ⟨h.bel.trans (ho.below h.bel.size (fun b hb hr => by have := hR b hr; have := h.le; omega)), h.le, h.kA.to ho (fun hr => by have := hR _ hr; omega), h.hA.to ho (fun b hb _ hr => by have := hR b hr; have := h.le; omega)⟩
theorem PX.start {w : World} {c e n : Int} {ra : Option Addr} {rn rc : Nat} {rl : List RC} (h : rcR w (fun _ => True) (.slice ra rn rc) rl) : PX w (w.alloc (.cells #[.int .i64 c, .int .i64 e, .int .i64 n, .slice ra rn rc] 41)) w.heap.size c e n ra rn rc rl := by
  have hb := below_new (o := .cells #[.int .i64 c, .int .i64 e, .int .i64 n, .slice ra rn rc] 41) (w := w) (Below.refl _ _)
  exact ⟨hb, Nat.le_refl _, Bk.new w _ [_, _, _, _], (h.mono (R := fun b => b < w.heap.size) (fun b _ hb => hb)).below hb⟩
theorem PX.cells {w v : World} {g : Nat} {c e n : Int} {ra : Option Addr} {rn rc : Nat} {rl : List RC} (h : PX w v g c e n ra rn rc rl) : v.cell? ⟨g, 0, none⟩ = some (.int .i64 c) ∧ v.cell? ⟨g, 1, none⟩ = some (.int .i64 e) ∧ v.cell? ⟨g, 2, none⟩ = some (.int .i64 n) ∧ v.cell? ⟨g, 3, none⟩ = some (.slice ra rn rc) := ⟨h.kA.cell (j := 0) rfl, h.kA.cell (j := 1) rfl, h.kA.cell (j := 2) rfl, h.kA.cell (j := 3) rfl⟩
/-- An owned Prep in its box. -/
structure PB8 (v : World) (b B : Nat) (c e n : Int) (ra : Option Addr) (rn rc : Nat) (rl : List RC) : Prop where
  box : Bk v b 48 [.int .i64 c, .int .i64 e, .int .i64 n, .slice ra rn rc]
  own : rcW v B (.slice ra rn rc) rl
  sep : ∀ y, (Value.slice ra rn rc).ownBlock = some y → y < b
theorem PB8.below {v v' : World} {b B : Nat} {c e n : Int} {ra : Option Addr} {rn rc : Nat} {rl : List RC} (h : PB8 v b B c e n ra rn rc rl) (hb : Below v.heap.size v v') : PB8 v' b B c e n ra rn rc rl := ⟨h.box.below hb, h.own.below hb, h.sep⟩
theorem PB8.to {v v' : World} {R : Nat → Prop} {b B : Nat} {c e n : Int} {ra : Option Addr} {rn rc : Nat} {rl : List RC} (h : PB8 v b B c e n ra rn rc rl) (ho : Only R v v') (hb : ¬ R b) (hR : ∀ y, (Value.slice ra rn rc).ownBlock = some y → ¬ R y) : PB8 v' b B c e n ra rn rc rl := ⟨h.box.to ho hb, h.own.to ho hR, h.sep⟩
theorem PB8.new {v : World} {B : Nat} {c e n : Int} {ra : Option Addr} {rn rc : Nat} {rl : List RC} (h : rcW v B (.slice ra rn rc) rl) : PB8 (v.alloc (.cells #[.int .i64 c, .int .i64 e, .int .i64 n, .slice ra rn rc] 48)) v.heap.size B c e n ra rn rc rl := ⟨Bk.new v _ [_, _, _, _], h.below (below_new (Below.refl _ _)), fun y hy => (h.lt hy).2⟩
theorem PB8.cells {v : World} {b B : Nat} {c e n : Int} {ra : Option Addr} {rn rc : Nat} {rl : List RC} (h : PB8 v b B c e n ra rn rc rl) : v.cell? ⟨b, 0, none⟩ = some (.int .i64 c) ∧ v.cell? ⟨b, 1, none⟩ = some (.int .i64 e) ∧ v.cell? ⟨b, 2, none⟩ = some (.int .i64 n) ∧ v.cell? ⟨b, 3, none⟩ = some (.slice ra rn rc) := ⟨h.box.cell (j := 0) rfl, h.box.cell (j := 1) rfl, h.box.cell (j := 2) rfl, h.box.cell (j := 3) rfl⟩
end Go.Proofs.YtgnjknbgahickabDoor
/-
  The law FnExactPrepEdits answers true at every Prep.
-/
namespace Go.Proofs.YtgnjknbgahickabDoor
open Go.RowKit
set_option linter.unusedVariables false
theorem rcw_to_bk {w : World} {B g n : Nat} {l : List RC} (h : rcW w B (.slice (some ⟨g, 0, none⟩) n n) l) : Bk w g 30 (rccs l) ∧ B ≤ g := by
  have hl := (Rw.len h.r).1
  rcases h.2 with ⟨e, _⟩ | ⟨g', cap, cur, e, hB, hg, h5, h6, h7, h8⟩
  · cases e
  · cases e
    refine ⟨?_, hB⟩
    have e2 : cur = (rccs l).toArray := by
      rw [← h8, List.take_of_length_le (by simp [h7])]
    unfold Bk
    rw [hg, e2]
theorem peV_len (t : TX) (rl : List RC) : (peV t rl).length ≤ 17 := by
  unfold peV
  split
  · rename_i h
    have h2 : rl.length ≤ 16 := by
      simp [prOk] at h
      exact h.2.1
    rw [List.length_append, peK_len]
    simp
    omega
  · simp
set_option maxHeartbeats 16000000 in
set_option maxRecDepth 20000 in
theorem lawPrepEdits_walk (c e n : Int) (ra : Option Addr) (rn rc : Nat) (rl : List RC) (w : World) (h : rcR w (fun _ => True) (.slice ra rn rc) rl ∧ rcSz rl) (ht : Tab w) (hg : 2 < w.heap.size) :
    Calls Tryd.prog 5 #[.agg #[.int .i64 c, .int .i64 e, .int .i64 n, .slice ra rn rc]] w fun r w' => r = .returned (.bool true) ∧ Below w.heap.size w w' := by
  have X0 := hid (PX.start (c := c) (e := e) (n := n) h.1)
  have HZ1 := hid h.2
  have HT := hid ht
  have HG := hid hg
  have TB : Hid (∀ v, Below w.heap.size w v → Tab v ∧ 2 < v.heap.size) := fun v hv => ⟨HT.out.below hv HG.out, Nat.lt_of_lt_of_le HG.out hv.size⟩
  have HPL := hid (peV_len (c, e, n) rl)
  clear h ht hg HT HG
  have CS1 := hid (fun S a m k w h => specPrepEdits_any S c e n a m k rl w h)
  have CI1 := hid (fun S a m k w h t g => implPrepEdits_any S c e n a m k rl w h t g)
  generalize peV (c, e, n) rl = pe at *
  go_enter Tryd.func5, Tryd.ntmps5
  go_wp2_with fail
  refine (szPrep_any _ c e n ra rn rc rl _ X0.out.hA HZ1.out).mono ?_
  generalize w.alloc (.cells #[.int .i64 c, .int .i64 e, .int .i64 n, .slice ra rn rc] 41) = U at *
  rintro r w1 ⟨⟨x, rfl, hx1, hx2, hx3⟩, hb⟩
  have X1 := hid (X0.out.below hb)
  clear hb X0
  by_cases hneg : x < 0
  · clear hx3
    go_wp2
    go_ret
    exact ⟨rfl, X1.out.bel⟩
  · have m0 := hx3 (by omega)
    clear hx3
    obtain ⟨x0, x1, x2, x3⟩ := X1.out.cells
    go_wp2_with fail
    refine (toPrep_any _ c e n ra rn rc rl _ X1.out.hA m0).mono ?_
    rintro r w2 ⟨g0, rfl, hO, hb⟩
    have X2 := hid (X1.out.below hb)
    have C2 := hid hO
    clear hb X1 hO x0 x1 x2 x3
    go_wp2_with fail
    refine (CS1.out (fun _ => True) _ _ _ _ C2.out.r).mono ?_
    rintro r w3 ⟨⟨sa, sn, sc, rfl, hE⟩, hb⟩
    have X3 := hid (X2.out.below hb)
    have S3 := hid hE
    have L3 : Hid (∀ y, (Value.slice sa sn sc).ownBlock = some y → w.heap.size < y ∧ y < w3.heap.size) := fun y hy => by have h1 := hE.lt hy; have h2 := X2.out.kA.lt; have h3 := X2.out.le; omega
    clear hb X2 C2 hE
    obtain ⟨x0, x1, x2, x3⟩ := X3.out.cells
    go_wp2_with fail
    refine (toPrep_any _ c e n ra rn rc rl _ X3.out.hA m0).mono ?_
    rintro r w4 ⟨h0, rfl, hO, hb⟩
    have hal := below_new (o := .cells #[.int .i64 c, .int .i64 e, .int .i64 n, .slice (some ⟨h0, 0, none⟩) rn rn] 48) (w := w4) (Below.refl _ _)
    have X5 := hid ((X3.out.below hb).below hal)
    have S5 := hid ((S3.out.below hb).below hal)
    have C5 := hid (PB8.new (c := c) (e := e) (n := n) hO)
    have D5 : Hid (w3.heap.size ≤ h0 ∧ h0 < w4.heap.size) := ⟨(rcw_to_bk hO).2, (rcw_to_bk hO).1.lt⟩
    have D3 : Hid (w.heap.size < w3.heap.size) := X3.out.kA.lt
    clear hb hal X3 S3 hO x0 x1 x2 x3
    obtain ⟨t5, u5⟩ := TB.out _ X5.out.bel
    have T5 := hid t5
    have U5 := hid u5
    clear t5 u5
    go_wp2_with fail
    refine (CI1.out (fun _ => True) _ _ _ _ C5.out.own.r T5.out U5.out).mono ?_
    generalize hw5 : w4.alloc (.cells #[.int .i64 c, .int .i64 e, .int .i64 n, .slice (some ⟨h0, 0, none⟩) rn rn] 48) = w5 at *
    have D6 : Hid (w4.heap.size < w5.heap.size) := C5.out.box.lt
    generalize w4.heap.size = b4 at *
    clear hw5
    rintro r w6 ⟨⟨ga, gn, gc, rfl, hE⟩, hb⟩
    have X6 := hid (X5.out.below hb)
    have S6 := hid (S5.out.below hb)
    have C6 := hid (C5.out.below hb)
    have A6 := hid hE
    have L6 : Hid (∀ y, (Value.slice ga gn gc).ownBlock = some y → w5.heap.size ≤ y) := fun y hy => (hE.lt hy).1
    have N6 : Hid (gn = pe.length) := (Er.len hE.r).1
    have gl : gn ≤ 1048577 := by have h1 := N6.out; have h2 := HPL.out; omega
    clear hb X5 S5 C5 hE T5 U5
    have hde : decide (pe = pe) = true := by simp
    skip
    go_wp2_with fail
    refine (eqEditS_at (fun _ => True) (fun _ => True) _ _ _ _ _ _ pe pe _ A6.out.r S6.out.r).mono ?_
    rintro r w7 ⟨rfl, hb⟩
    have X7 := hid (X6.out.below hb)
    have S7 := hid (S6.out.below hb)
    have C7 := hid (C6.out.below hb)
    have A7 := hid (A6.out.below hb)
    clear hb X6 S6 C6 A6
    simp only [hde]
    obtain ⟨x0, x1, x2, x3⟩ := X7.out.cells
    obtain ⟨y0, y1, y2, y3⟩ := C7.out.cells
    have X8 := hid (X7.out.below (below_drew _))
    have S8 := hid (S7.out.below (below_drew _))
    have C8 := hid (C7.out.below (below_drew _))
    have A8 := hid (A7.out.below (below_drew _))
    go_wp2_with fail
    go_cut [31] (fun x v => ∃ V, V = v ∧ x = .bool false ∧ Below w7.drew.heap.size w7.drew V)
    case first =>
      go_region_with (first
        | (go_at_call 15; refine (toPrep_any _ c e n ra rn rc rl _ X8.out.hA m0).mono ?_; rintro r w8 ⟨f0, rfl, hO8, hb8⟩; have z0 := (C8.out.below hb8).cells.1; have z1 := (C8.out.below hb8).cells.2.1; have z2 := (C8.out.below hb8).cells.2.2.1; have z3 := (C8.out.below hb8).cells.2.2.2)
        | (go_at_call 18; refine (eqPrep_same (fun _ => True) (fun _ => True) c e n _ _ _ _ _ _ rl _ (C8.out.below hb8).own.r hO8.r).mono ?_; rintro r w9 ⟨rfl, hb9⟩))
      all_goals (go_wp2_with fail; go_meet)
      all_goals exact ⟨_, rfl, by simp, btR hb8 hb9⟩
    case rest =>
      obtain ⟨V9, rfl, rfl, hb⟩ := hcut
      have X9 := hid (X8.out.below hb)
      have S9 := hid (S8.out.below hb)
      have C9 := hid (C8.out.below hb)
      have A9 := hid (A8.out.below hb)
      clear hb X8 S8 C8 A8 X7 S7 C7 A7 x0 x1 x2 x3 y0 y1 y2 y3
      obtain ⟨y0, y1, y2, y3⟩ := C9.out.cells
      have BK9 := hid (rcw_to_bk C9.out.own).1
      go_wp2_with fail
      refine (markPrep_any c e n h0 rn 1 rl _ (C9.out.own.base (Nat.zero_le _)) BK9.out m0 (by omega) (by omega)).mono ?_
      rintro r w10 ⟨rfl, ho⟩
      have d5 := D5.out
      have d3 := D3.out
      have d6 := D6.out
      have X10 := hid (X9.out.only ho (fun b hb => by have h1 := X9.out.le; omega))
      have S10 := hid (S9.out.to ho (fun y hy q => by have h1 := L3.out y hy; omega))
      have A10 := hid (A9.out.to ho (fun y hy q => by have h1 := L6.out y hy; omega))
      clear ho X9 S9 A9 C9 BK9 y0 y1 y2 y3 d5 d3 d6
      have hkn : ¬ ((1 + rn * 5 : Nat) : Int) < 0 := by omega
      generalize 1 + rn * 5 = kk at *
      go_wp2_with fail
      refine (eqEditS_at (fun _ => True) (fun _ => True) _ _ _ _ _ _ pe pe _ A10.out.r S10.out.r).mono ?_
      rintro r w11 ⟨rfl, hb⟩
      have X11 := hid (X10.out.below hb)
      have S11 := hid (S10.out.below hb)
      have A11 := hid (A10.out.below hb)
      clear hb X10 S10 A10
      simp only [hde]
      go_wp2_with fail
      refine (markEditS_ex _ ga gn gc 1 pe _ A11.out gl (by omega) (by omega)).mono ?_
      rintro r w12 ⟨rfl, hm, ho⟩
      have X12 := hid (X11.out.only ho (fun b hb => by have h1 := L6.out b hb; have h2 := D6.out; have h3 := D5.out; have h4 := D3.out; omega))
      have S12 := hid (S11.out.to ho (fun y hy q => by have h1 := L3.out y hy; have h2 := L6.out y q; have h3 := D6.out; have h4 := D5.out; omega))
      have M12 := hid hm
      clear ho hm X11 S11 A11 hkn
      generalize hq : 1 + gn * 3 = q at *
      have HQ := hid hq
      have hq0 : ¬ (q : Int) < 0 := by omega
      have hqq : ((q : Int) != (q : Int)) = false := by simp
      clear hq
      go_wp2_with fail
      refine (heldEditS_any _ ga gn gc 1 _ M12.out gl (by omega) (by omega)).mono ?_
      rw [HQ.out]
      rintro r w13 ⟨rfl, hb⟩
      have X13 := hid (X12.out.below hb)
      have S13 := hid (S12.out.below hb)
      have M13 := hid (M12.out.below hb)
      clear hb X12 S12 M12
      obtain ⟨x0, x1, x2, x3⟩ := X13.out.cells
      go_wp2_with fail
      refine (toPrep_any _ c e n ra rn rc rl _ X13.out.hA m0).mono ?_
      rintro r w14 ⟨f0, rfl, hO, hb⟩
      have X14 := hid (X13.out.below hb)
      have S14 := hid (S13.out.below hb)
      have M14 := hid (M13.out.below hb)
      have C14 := hid hO
      clear hb hO X13 S13 M13 x0 x1 x2 x3
      obtain ⟨t5, u5⟩ := TB.out _ X14.out.bel
      have T5 := hid t5
      have U5 := hid u5
      clear t5 u5
      go_wp2_with fail
      refine (CI1.out (fun _ => True) _ _ _ _ C14.out.r T5.out U5.out).mono ?_
      rintro r w15 ⟨⟨ha, hn, hc, rfl, hE⟩, hb⟩
      have X15 := hid (X14.out.below hb)
      have S15 := hid (S14.out.below hb)
      have M15 := hid (M14.out.below hb)
      have H15 := hid hE
      clear hb hE X14 S14 M14 C14 T5 U5
      go_wp2_with fail
      refine (eqEditS_at (fun _ => True) (fun _ => True) _ _ _ _ _ _ pe pe _ H15.out.r S15.out.r).mono ?_
      rintro r w16 ⟨rfl, hb⟩
      have X16 := hid (X15.out.below hb)
      have S16 := hid (S15.out.below hb)
      have M16 := hid (M15.out.below hb)
      clear hb X15 S15 M15 H15
      simp only [hde]
      go_wp2_with fail
      refine (heldEditS_any _ ga gn gc 1 _ M16.out gl (by omega) (by omega)).mono ?_
      rw [HQ.out]
      rintro r w17 ⟨rfl, hb⟩
      have X17 := hid (X16.out.below hb)
      clear hb X16 S16 M16
      go_wp2
      go_ret
      exact ⟨rfl, X17.out.bel⟩
theorem lawPrepEdits_door (c e n : Int) (ra : Option Addr) (rn rc : Nat) (rl : List RC) (w : World) (h : rcR w (fun _ => True) (.slice ra rn rc) rl ∧ rcSz rl) (ht : Tab w) (_ : Err w 0) (_ : Err w 1) (_ : 0 < w.heap.size) (_ : 1 < w.heap.size) (hg : 2 < w.heap.size) :
    Calls Tryd.prog 5 #[.agg #[.int .i64 c, .int .i64 e, .int .i64 n, .slice ra rn rc]] w fun r w' => r = .returned (.bool true) ∧ Below w.heap.size w w' := lawPrepEdits_walk c e n ra rn rc rl w h ht hg
end Go.Proofs.YtgnjknbgahickabDoor
/-
  What is known of records, rows of records and Preps that come in as arguments.
-/
namespace Go.Proofs.YtgnjknbgahickabDoor
open Go.ChangeShapes Go.WideShapes Go.ChangeAt Go.RowKit
theorem arrC5 {α : Type} {cs : Array α} (h : cs.size = 5) : ∃ a b c d e, cs = #[a, b, c, d, e] := by
  obtain ⟨l⟩ := cs
  match l, h with
  | [a, b, c, d, e], _ => exact ⟨a, b, c, d, e, rfl⟩
set_option maxRecDepth 100000 in
theorem rangeC_two : ∃ f0 f1 : Field, Tryd.prog.underlying 23 = some (.struct #[f0, f1]) ∧ f0.type = 9 ∧ f1.type = 9 ∧ f0.offset = 0 ∧ f1.offset = 1 := ⟨_, _, Tryd.underlying23, rfl, rfl, rfl, rfl⟩
set_option maxRecDepth 100000 in
theorem open_rngC {H : Type} {enc : TypeId × Value → H} {w : World} {base : Nat} {spare : Nat → Bool} {held : Bool} {fuel : Nat} {v0 v1 : Value} {x : DataW H × List MemPlace}
    (h : DataW.trod enc Tryd.prog w base spare held fuel 23 [v0, v1] = some x) : ∃ lo hi : ByteArray, v0 = .string lo ∧ v1 = .string hi ∧ lo.size ≤ maxLen ∧ hi.size ≤ maxLen := by
  obtain ⟨f0, f1, hs, t0, t1, o0, o1⟩ := rangeC_two
  have k0 : Tryd.prog.cellsOf 9 = 1 := by kernel_rfl
  obtain ⟨y0, y1, n', _, _, d0, d1⟩ := trod_struct2 hs h
  rw [t0, o0, k0] at d0
  rw [t1, o1, k0] at d1
  simp at d0 d1
  obtain ⟨s0, e0, _, l0⟩ := DataW.trod_string Tryd.underlying9 d0
  obtain ⟨s1, e1, _, l1⟩ := DataW.trod_string Tryd.underlying9 d1
  simp at e0 e1
  exact ⟨s0, s1, e0, e1, l0, l1⟩
set_option maxRecDepth 100000 in
theorem rec_four : ∃ f0 f1 f2 f3 : Field, Tryd.prog.underlying 25 = some (.struct #[f0, f1, f2, f3]) ∧ f0.type = 3 ∧ f1.type = 9 ∧ f2.type = 9 ∧ f3.type = 23 ∧ f0.offset = 0 ∧ f1.offset = 1 ∧ f2.offset = 2 ∧ f3.offset = 3 := ⟨_, _, _, _, Tryd.underlying25, rfl, rfl, rfl, rfl, rfl, rfl, rfl, rfl⟩
set_option maxRecDepth 100000 in
theorem open_recc {H : Type} {enc : TypeId × Value → H} {w : World} {base : Nat} {spare : Nat → Bool} {held : Bool} {fuel : Nat} {v0 v1 v2 v3 v4 : Value} {x : DataW H × List MemPlace}
    (h : DataW.trod enc Tryd.prog w base spare held fuel 25 [v0, v1, v2, v3, v4] = some x) : ∃ t : RC, v0 = .int .i64 t.1 ∧ v1 = .string t.2.1 ∧ v2 = .string t.2.2.1 ∧ v3 = .string t.2.2.2.1 ∧ v4 = .string t.2.2.2.2 ∧ t.2.1.size ≤ maxLen ∧ t.2.2.1.size ≤ maxLen ∧ t.2.2.2.1.size ≤ maxLen ∧ t.2.2.2.2.size ≤ maxLen := by
  obtain ⟨f0, f1, f2, f3, hs, t0, t1, t2, t3, o0, o1, o2, o3⟩ := rec_four
  have k0 : Tryd.prog.cellsOf 3 = 1 := by kernel_rfl
  have k1 : Tryd.prog.cellsOf 9 = 1 := by kernel_rfl
  have k2 : Tryd.prog.cellsOf 23 = 2 := by kernel_rfl
  obtain ⟨xs, n', _, rfl, hl, hlen, hf⟩ := DataW.trod_struct hs h
  match xs, hlen with
  | [y0, y1, y2, y3], _ =>
    have d0 := hf 0 f0 rfl
    have d1 := hf 1 f1 rfl
    have d2 := hf 2 f2 rfl
    have d3 := hf 3 f3 rfl
    rw [t0, o0, k0] at d0
    rw [t1, o1, k1] at d1
    rw [t2, o2, k1] at d2
    rw [t3, o3, k2] at d3
    simp at d0 d1 d2 d3
    obtain ⟨s0, e0, _⟩ := DataW.trod_int Tryd.underlying3 d0
    obtain ⟨s1, e1, _, l1⟩ := DataW.trod_string Tryd.underlying9 d1
    obtain ⟨s2, e2, _, l2⟩ := DataW.trod_string Tryd.underlying9 d2
    obtain ⟨lo, hi, e3, e4, l3, l4⟩ := open_rngC d3
    simp at e0 e1 e2
    exact ⟨(s0, s1, s2, lo, hi), e0, e1, e2, e3, e4, l1, l2, l3, l4⟩
set_option maxRecDepth 100000 in
theorem open_rec {H : Type} {enc : TypeId × Value → H} {w : World} {base : Nat} {spare : Nat → Bool} {held : Bool} {r : Reach} {b0 : Nat} {v : Value} {d : DataW H} {p : List MemPlace}
    (hv : Value.okWide Tryd.prog w r b0 25 v) (h : DataW.Trod enc Tryd.prog w base spare held 25 v d p) : ∃ (k : Int) (ky vl lo hi : ByteArray), v = .agg #[.int .i64 k, .string ky, .string vl, .string lo, .string hi] ∧ ky.size ≤ maxLen ∧ vl.size ≤ maxLen ∧ lo.size ≤ maxLen ∧ hi.size ≤ maxLen := by
  obtain ⟨f0, f1, f2, f3, hs, _⟩ := rec_four
  obtain ⟨cs, rfl, hsz⟩ := okWide_struct hs hv
  obtain ⟨c0, c1, c2, c3, c4, rfl⟩ := arrC5 (hsz.trans (by kernel_rfl))
  obtain ⟨fuel, hf⟩ := h
  simp [Value.cells] at hf
  obtain ⟨t, rfl, rfl, rfl, rfl, rfl, hl⟩ := open_recc hf
  exact ⟨t.1, t.2.1, t.2.2.1, t.2.2.2.1, t.2.2.2.2, rfl, hl⟩
theorem rw_mkC {w : World} {a : Addr} {n c : Nat} {xs : List Value} (hl : n ≤ c) (hc : c ≤ 9223372036854775807) (hx : n = 0 → xs = []) (h0 : 0 < n → 0 < xs.length) (h : ∀ j u, xs[j]? = some u → w.cell? (a.add j) = some u) : Rw w (fun _ => True) (.slice (some a) n c) n xs := by
  refine ⟨_, c, rfl, hl, hc, hx, fun h => by (cases h), fun hp => ?_⟩
  obtain ⟨b, off, spot⟩ := a
  obtain ⟨u, hu⟩ : ∃ u, xs[0]? = some u := ⟨xs[0]'(h0 hp), by simp [h0 hp]⟩
  have hc0 := h 0 u hu
  have hspot : spot = none := by simpa [Addr.add] using World.cell?_spot hc0
  subst hspot
  refine ⟨b, off, rfl, by simpa [Addr.add] using block_lt hc0, trivial, fun j v hv => ?_⟩
  have := h j v hv
  rwa [Addr.add_lit] at this
set_option maxRecDepth 100000 in
theorem open_recr {H : Type} {enc : TypeId × Value → H} {w : World} {base : Nat} {spare : Nat → Bool} {held : Bool} {fuel : Nat} {v : Value} {x : DataW H × List MemPlace}
    (h : DataW.trod enc Tryd.prog w base spare held fuel 39 [v] = some x) : ∃ l : List RC, rcR w (fun _ => True) v l ∧ rcSz l := by
  have k3 : Tryd.prog.cellsOf 25 = 5 := by kernel_rfl
  rcases Go.Deep.open_slice Tryd.underlying39 h with ⟨hcs, _⟩ | ⟨a, len, cap, m, n, D, P, hcs, _, hl, hm, hmm, _, hc⟩
  · simp at hcs
    subst hcs
    exact ⟨[], rw_nil _ _, fun i => by simp [rcAt, rc0]; decide⟩
  · simp at hcs
    subst hcs
    have hlm : len ≤ m := by rw [hmm]; split <;> omega
    simp only [k3] at hc
    have ex : ∀ i, ∃ p : RC, i < m → (w.cell? (a.add (i * 5)) = some (.int .i64 p.1) ∧ w.cell? (a.add (i * 5 + 1)) = some (.string p.2.1) ∧ w.cell? (a.add (i * 5 + 2)) = some (.string p.2.2.1) ∧ w.cell? (a.add (i * 5 + 3)) = some (.string p.2.2.2.1) ∧ w.cell? (a.add (i * 5 + 4)) = some (.string p.2.2.2.2)) ∧ p.2.1.size ≤ maxLen ∧ p.2.2.1.size ≤ maxLen ∧ p.2.2.2.1.size ≤ maxLen ∧ p.2.2.2.2.size ≤ maxLen := by
      intro i
      by_cases hi : i < m
      · obtain ⟨cs', hcs, hd⟩ := hc i hi
        obtain ⟨_, hcl, hcell⟩ := World.cells?_some hcs
        obtain ⟨v0, v1, v2, v3, v4, rfl⟩ : ∃ v0 v1 v2 v3 v4, cs' = [v0, v1, v2, v3, v4] := by
          match cs', hcl with
          | [v0, v1, v2, v3, v4], _ => exact ⟨v0, v1, v2, v3, v4, rfl⟩
        obtain ⟨t, rfl, rfl, rfl, rfl, rfl, hl4⟩ := open_recc hd
        have c0 := hcell 0 (by omega)
        have c1 := hcell 1 (by omega)
        have c2 := hcell 2 (by omega)
        have c3 := hcell 3 (by omega)
        have c4 := hcell 4 (by omega)
        obtain ⟨cs0, hcs0, _⟩ := hc 0 (by omega)
        have c00 := (World.cells?_some hcs0).2.2 0 (by omega)
        have hcl0 := (World.cells?_some hcs0).2.1
        obtain ⟨b, off, spot⟩ := a
        have hspot : spot = none := by
          have e0 : ∀ x : Addr, x.add 0 = x := fun _ => rfl
          rw [Nat.zero_mul, e0, e0] at c00
          obtain ⟨u0, hu0⟩ : ∃ u, cs0[0]? = some u := ⟨cs0[0]'(by omega), by simp⟩
          exact World.cell?_spot (c00.trans hu0)
        subst hspot
        simp only [Addr.add_lit] at c0 c1 c2 c3 c4
        refine ⟨t, fun _ => ⟨⟨?_, ?_, ?_, ?_, ?_⟩, hl4⟩⟩
        · simpa [Addr.add_lit] using c0
        · simpa [Addr.add_lit, Nat.add_assoc] using c1
        · simpa [Addr.add_lit, Nat.add_assoc] using c2
        · simpa [Addr.add_lit, Nat.add_assoc] using c3
        · simpa [Addr.add_lit, Nat.add_assoc] using c4
      · exact ⟨rc0, fun h => absurd h hi⟩
    obtain ⟨f, hf⟩ := Classical.axiomOfChoice ex
    unfold maxLen at hm hf
    refine ⟨(List.range len).map f, ?_, fun i => ?_⟩
    · unfold rcR
      rw [show ((List.range len).map f).length = len by simp]
      refine rw_mkC hl (by omega) (fun h0 => by simp [h0, rccs]) (fun h0 => by rw [rccs_length]; simp; omega) (fun j u hu => ?_)
      have hj : j < len * 5 := by
        have := (List.getElem?_eq_some_iff.1 hu).1
        simpa [rccs_length] using this
      have hq := rccs_at ((List.range len).map f) (j / 5) (by simp; omega)
      have hv : rcAt ((List.range len).map f) (j / 5) = f (j / 5) := by simp [rcAt, show j / 5 < len by omega]
      rw [hv] at hq
      have hc := (hf (j / 5) (by omega)).1
      have h3 : j = j / 5 * 5 ∨ j = j / 5 * 5 + 1 ∨ j = j / 5 * 5 + 2 ∨ j = j / 5 * 5 + 3 ∨ j = j / 5 * 5 + 4 := by omega
      rcases h3 with e | e | e | e | e
      · rw [← e, hu] at hq
        rw [← e] at hc
        rw [hc.1, hq.1]
      · rw [← e, hu] at hq
        rw [← e] at hc
        rw [hc.2.1, hq.2.1]
      · rw [← e, hu] at hq
        rw [← e] at hc
        rw [hc.2.2.1, hq.2.2.1]
      · rw [← e, hu] at hq
        rw [← e] at hc
        rw [hc.2.2.2.1, hq.2.2.2.1]
      · rw [← e, hu] at hq
        rw [← e] at hc
        rw [hc.2.2.2.2, hq.2.2.2.2]
    · by_cases hi : i < len
      · have := (hf i (by omega)).2
        simpa [rcAt, hi] using this
      · simp [rcAt, hi, rc0]
        decide
set_option maxRecDepth 100000 in
theorem prep_two : ∃ f0 f1 : Field, Tryd.prog.underlying 41 = some (.struct #[f0, f1]) ∧ f0.type = 38 ∧ f1.type = 39 ∧ f0.offset = 0 ∧ f1.offset = 3 := ⟨_, _, Tryd.underlying41, rfl, rfl, rfl, rfl⟩
set_option maxRecDepth 100000 in
theorem txC_three : ∃ f0 f1 f2 : Field, Tryd.prog.underlying 38 = some (.struct #[f0, f1, f2]) ∧ f0.type = 3 ∧ f1.type = 3 ∧ f2.type = 3 ∧ f0.offset = 0 ∧ f1.offset = 1 ∧ f2.offset = 2 := ⟨_, _, _, Tryd.underlying38, rfl, rfl, rfl, rfl, rfl, rfl⟩
theorem arrC4 {α : Type} {cs : Array α} (h : cs.size = 4) : ∃ a b c d, cs = #[a, b, c, d] := by
  obtain ⟨l⟩ := cs
  match l, h with
  | [a, b, c, d], _ => exact ⟨a, b, c, d, rfl⟩
set_option maxRecDepth 100000 in
theorem open_prep {H : Type} {enc : TypeId × Value → H} {w : World} {base : Nat} {spare : Nat → Bool} {held : Bool} {r : Reach} {b0 : Nat} {v : Value} {d : DataW H} {q : List MemPlace}
    (hv : Value.okWide Tryd.prog w r b0 41 v) (h : DataW.Trod enc Tryd.prog w base spare held 41 v d q) :
    ∃ (c e n : Int) (ra : Option Addr) (rn rc : Nat) (rl : List RC), v = .agg #[.int .i64 c, .int .i64 e, .int .i64 n, .slice ra rn rc] ∧ rcR w (fun _ => True) (.slice ra rn rc) rl ∧ rcSz rl := by
  obtain ⟨f0, f1, hs, t0, t1, o0, o1⟩ := prep_two
  obtain ⟨cs, rfl, hsz⟩ := okWide_struct hs hv
  obtain ⟨c0, c1, c2, c3, rfl⟩ := arrC4 (hsz.trans (by kernel_rfl))
  obtain ⟨fuel, hf⟩ := h
  obtain ⟨y0, y1, n, hx, _, h0, h1⟩ := trod_struct2 hs hf
  have k0 : Tryd.prog.cellsOf 38 = 3 := by kernel_rfl
  have k : Tryd.prog.cellsOf 39 = 1 := by kernel_rfl
  rw [t0, o0, k0] at h0
  rw [t1, o1, k] at h1
  simp [Value.cells] at h0 h1
  obtain ⟨rl, p1, p2⟩ := open_recr h1
  obtain ⟨ra, rc, rfl, _⟩ := Rw.shape p1
  obtain ⟨g0, g1, g2, hs2, s0, s1, s2, i0, i1, i2⟩ := txC_three
  have kk : Tryd.prog.cellsOf 3 = 1 := by kernel_rfl
  obtain ⟨z0, z1, z2, n', _, _, d0, d1, d2⟩ := Go.Deep.trod_struct3 hs2 h0
  rw [s0, i0, kk] at d0
  rw [s1, i1, kk] at d1
  rw [s2, i2, kk] at d2
  simp at d0 d1 d2
  obtain ⟨q0, e0, _⟩ := DataW.trod_int Tryd.underlying3 d0
  obtain ⟨q1, e1, _⟩ := DataW.trod_int Tryd.underlying3 d1
  obtain ⟨q2, e2, _⟩ := DataW.trod_int Tryd.underlying3 d2
  simp at e0 e1 e2
  subst e0 e1 e2
  exact ⟨q0, q1, q2, ra, _, rc, rl, rfl, p1, p2⟩
end Go.Proofs.YtgnjknbgahickabDoor
