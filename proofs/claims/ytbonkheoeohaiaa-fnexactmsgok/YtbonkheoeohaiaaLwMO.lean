/-
  The law FnExactMsgOk answers true at every message; what the laws over a message keep at hand.
-/
import Derived.Test.YtbonkheoeohaiaaMgN2
import Derived.Test.YtbonkheoeohaiaaMgN3
import Derived.Test.YtbonkheoeohaiaaMgD
import Derived.Test.YtbonkheoeohaiaaMgT
import Derived.Deep.RegionLaw
import Derived.Deep.DeepCutAuto
import Derived.Deep.WholeRow
namespace Go.Proofs.Ytbonkheoeohaiaa
open Go.RowKit
set_option linter.unusedVariables false
theorem ex_load {P : Program} {ρ : Operand → Value} {o : Oper} {w : World} (ty : TypeId) (x : Operand) (ho : o.op = .load ty x) (g : Nat) (hx : ρ x = .pointer (some ⟨g, 0, none⟩)) (t : TypeId) (cs : Array Value) (fr : Nat × Nat) (d : TypeDesc) (hg : w.heap[g]? = some (.cells cs t fr))
    (hu : P.underlying ty = some d) (hd : (match d with | .struct _ | .array _ _ => true | _ => false) = true) (hi : (P.info? ty).map (·.size) = some cs.size) : (execOp ρ o).run P w = .ok (.value (.agg cs)) w := by
  unfold execOp
  simp only [ho, hx, Instr.loadAt, Instr.sureAddr, Sem.run_bind, Sem.run_pure, Result.andThen_ok, run_loadVar_row w g t ty cs fr d hg hu hd hi]
/-- The law's own message, in its box, its row below. -/
structure MX (w v : World) (g : Nat) (kd c e n sh nu st k : Int) (ky vl lo hi : ByteArray) (mo : Int) (bk : Bool) (cd : Int) (pa : Option Addr) (pn pc : Nat) (ys : Bool) (ps : List PB) : Prop where
  bel : Below w.heap.size w v
  le : w.heap.size ≤ g
  kA : Bk v g 40 [.int .i64 kd, .int .i64 c, .int .i64 e, .int .i64 n, .int .i64 sh, .int .i64 nu, .int .i64 st, .int .i64 k, .string ky, .string vl, .string lo, .string hi, .int .i64 mo, .bool bk, .int .i64 cd, .slice pa pn pc, .bool ys]
  hA : Pr v (fun b => b < w.heap.size) (.slice pa pn pc) ps
theorem MX.below {w v v' : World} {g : Nat} {kd c e n sh nu st k : Int} {ky vl lo hi : ByteArray} {mo : Int} {bk : Bool} {cd : Int} {pa : Option Addr} {pn pc : Nat} {ys : Bool} {ps : List PB} (h : MX w v g kd c e n sh nu st k ky vl lo hi mo bk cd pa pn pc ys ps) (hb : Below v.heap.size v v') : MX w v' g kd c e n sh nu st k ky vl lo hi mo bk cd pa pn pc ys ps := ⟨btR h.bel hb, h.le, h.kA.below hb, h.hA.below hb⟩
theorem MX.only {w v v' : World} {g : Nat} {kd c e n sh nu st k : Int} {ky vl lo hi : ByteArray} {mo : Int} {bk : Bool} {cd : Int} {pa : Option Addr} {pn pc : Nat} {ys : Bool} {ps : List PB} (h : MX w v g kd c e n sh nu st k ky vl lo hi mo bk cd pa pn pc ys ps) {R : Nat → Prop} (ho : Only R v v') (hR : ∀ b, R b → g < b) : MX w v' g kd c e n sh nu st k ky vl lo hi mo bk cd pa pn pc ys ps :=
  ⟨h.bel.trans (ho.below h.bel.size (fun b hb hr => by have := hR b hr; have := h.le; omega)), h.le, h.kA.to ho (fun hr => by have := hR _ hr; omega), Rw.to h.hA ho (fun b hb _ hr => by have := hR b hr; have := h.le; omega)⟩
theorem MX.start {w : World} {kd c e n sh nu st k : Int} {ky vl lo hi : ByteArray} {mo : Int} {bk : Bool} {cd : Int} {pa : Option Addr} {pn pc : Nat} {ys : Bool} {ps : List PB} (h : Pr w (fun _ => True) (.slice pa pn pc) ps) : MX w (w.alloc (.cells #[.int .i64 kd, .int .i64 c, .int .i64 e, .int .i64 n, .int .i64 sh, .int .i64 nu, .int .i64 st, .int .i64 k, .string ky, .string vl, .string lo, .string hi, .int .i64 mo, .bool bk, .int .i64 cd, .slice pa pn pc, .bool ys] 40)) w.heap.size kd c e n sh nu st k ky vl lo hi mo bk cd pa pn pc ys ps := by
  have hb := below_new (o := .cells #[.int .i64 kd, .int .i64 c, .int .i64 e, .int .i64 n, .int .i64 sh, .int .i64 nu, .int .i64 st, .int .i64 k, .string ky, .string vl, .string lo, .string hi, .int .i64 mo, .bool bk, .int .i64 cd, .slice pa pn pc, .bool ys] 40) (w := w) (Below.refl _ _)
  exact ⟨hb, Nat.le_refl _, Bk.new w _ [_, _, _, _, _, _, _, _, _, _, _, _, _, _, _, _, _], Pr.below (Rw.mono h (R := fun b => b < w.heap.size) (fun b _ hb => hb)) hb⟩
theorem MX.cells {w v : World} {g : Nat} {kd c e n sh nu st k : Int} {ky vl lo hi : ByteArray} {mo : Int} {bk : Bool} {cd : Int} {pa : Option Addr} {pn pc : Nat} {ys : Bool} {ps : List PB} (h : MX w v g kd c e n sh nu st k ky vl lo hi mo bk cd pa pn pc ys ps) : v.cell? ⟨g, 0, none⟩ = some (.int .i64 kd) ∧ v.cell? ⟨g, 1, none⟩ = some (.int .i64 c) ∧ v.cell? ⟨g, 2, none⟩ = some (.int .i64 e) ∧ v.cell? ⟨g, 3, none⟩ = some (.int .i64 n) ∧ v.cell? ⟨g, 4, none⟩ = some (.int .i64 sh) ∧ v.cell? ⟨g, 5, none⟩ = some (.int .i64 nu) ∧ v.cell? ⟨g, 6, none⟩ = some (.int .i64 st) ∧ v.cell? ⟨g, 7, none⟩ = some (.int .i64 k) ∧ v.cell? ⟨g, 8, none⟩ = some (.string ky) ∧ v.cell? ⟨g, 9, none⟩ = some (.string vl) ∧ v.cell? ⟨g, 10, none⟩ = some (.string lo) ∧ v.cell? ⟨g, 11, none⟩ = some (.string hi) ∧ v.cell? ⟨g, 12, none⟩ = some (.int .i64 mo) ∧ v.cell? ⟨g, 13, none⟩ = some (.bool bk) ∧ v.cell? ⟨g, 14, none⟩ = some (.int .i64 cd) ∧ v.cell? ⟨g, 15, none⟩ = some (.slice pa pn pc) ∧ v.cell? ⟨g, 16, none⟩ = some (.bool ys) := ⟨h.kA.cell (j := 0) rfl, h.kA.cell (j := 1) rfl, h.kA.cell (j := 2) rfl, h.kA.cell (j := 3) rfl, h.kA.cell (j := 4) rfl, h.kA.cell (j := 5) rfl, h.kA.cell (j := 6) rfl, h.kA.cell (j := 7) rfl, h.kA.cell (j := 8) rfl, h.kA.cell (j := 9) rfl, h.kA.cell (j := 10) rfl, h.kA.cell (j := 11) rfl, h.kA.cell (j := 12) rfl, h.kA.cell (j := 13) rfl, h.kA.cell (j := 14) rfl, h.kA.cell (j := 15) rfl, h.kA.cell (j := 16) rfl⟩
/-- An owned message in its box. -/
structure MB9 (v : World) (b B : Nat) (kd c e n sh nu st k : Int) (ky vl lo hi : ByteArray) (mo : Int) (bk : Bool) (cd : Int) (pa : Option Addr) (pn pc : Nat) (ys : Bool) (ps : List PB) : Prop where
  box : Bk v b 46 [.int .i64 kd, .int .i64 c, .int .i64 e, .int .i64 n, .int .i64 sh, .int .i64 nu, .int .i64 st, .int .i64 k, .string ky, .string vl, .string lo, .string hi, .int .i64 mo, .bool bk, .int .i64 cd, .slice pa pn pc, .bool ys]
  own : oqW v B (.slice pa pn pc) ps
  sep : ∀ y, (Value.slice pa pn pc).ownBlock = some y → y < b
theorem MB9.below {v v' : World} {b B : Nat} {kd c e n sh nu st k : Int} {ky vl lo hi : ByteArray} {mo : Int} {bk : Bool} {cd : Int} {pa : Option Addr} {pn pc : Nat} {ys : Bool} {ps : List PB} (h : MB9 v b B kd c e n sh nu st k ky vl lo hi mo bk cd pa pn pc ys ps) (hb : Below v.heap.size v v') : MB9 v' b B kd c e n sh nu st k ky vl lo hi mo bk cd pa pn pc ys ps := ⟨h.box.below hb, h.own.below hb, h.sep⟩
theorem MB9.to {v v' : World} {R : Nat → Prop} {b B : Nat} {kd c e n sh nu st k : Int} {ky vl lo hi : ByteArray} {mo : Int} {bk : Bool} {cd : Int} {pa : Option Addr} {pn pc : Nat} {ys : Bool} {ps : List PB} (h : MB9 v b B kd c e n sh nu st k ky vl lo hi mo bk cd pa pn pc ys ps) (ho : Only R v v') (hb : ¬ R b) (hR : ∀ y, (Value.slice pa pn pc).ownBlock = some y → ¬ R y) : MB9 v' b B kd c e n sh nu st k ky vl lo hi mo bk cd pa pn pc ys ps := ⟨h.box.to ho hb, h.own.to ho hR, h.sep⟩
theorem MB9.new {v : World} {B : Nat} {kd c e n sh nu st k : Int} {ky vl lo hi : ByteArray} {mo : Int} {bk : Bool} {cd : Int} {pa : Option Addr} {pn pc : Nat} {ys : Bool} {ps : List PB} (h : oqW v B (.slice pa pn pc) ps) : MB9 (v.alloc (.cells #[.int .i64 kd, .int .i64 c, .int .i64 e, .int .i64 n, .int .i64 sh, .int .i64 nu, .int .i64 st, .int .i64 k, .string ky, .string vl, .string lo, .string hi, .int .i64 mo, .bool bk, .int .i64 cd, .slice pa pn pc, .bool ys] 46)) v.heap.size B kd c e n sh nu st k ky vl lo hi mo bk cd pa pn pc ys ps := ⟨Bk.new v _ [_, _, _, _, _, _, _, _, _, _, _, _, _, _, _, _, _], h.below (below_new (Below.refl _ _)), fun y hy => (h.lt hy).2⟩
theorem MB9.cells {v : World} {b B : Nat} {kd c e n sh nu st k : Int} {ky vl lo hi : ByteArray} {mo : Int} {bk : Bool} {cd : Int} {pa : Option Addr} {pn pc : Nat} {ys : Bool} {ps : List PB} (h : MB9 v b B kd c e n sh nu st k ky vl lo hi mo bk cd pa pn pc ys ps) : v.cell? ⟨b, 0, none⟩ = some (.int .i64 kd) ∧ v.cell? ⟨b, 1, none⟩ = some (.int .i64 c) ∧ v.cell? ⟨b, 2, none⟩ = some (.int .i64 e) ∧ v.cell? ⟨b, 3, none⟩ = some (.int .i64 n) ∧ v.cell? ⟨b, 4, none⟩ = some (.int .i64 sh) ∧ v.cell? ⟨b, 5, none⟩ = some (.int .i64 nu) ∧ v.cell? ⟨b, 6, none⟩ = some (.int .i64 st) ∧ v.cell? ⟨b, 7, none⟩ = some (.int .i64 k) ∧ v.cell? ⟨b, 8, none⟩ = some (.string ky) ∧ v.cell? ⟨b, 9, none⟩ = some (.string vl) ∧ v.cell? ⟨b, 10, none⟩ = some (.string lo) ∧ v.cell? ⟨b, 11, none⟩ = some (.string hi) ∧ v.cell? ⟨b, 12, none⟩ = some (.int .i64 mo) ∧ v.cell? ⟨b, 13, none⟩ = some (.bool bk) ∧ v.cell? ⟨b, 14, none⟩ = some (.int .i64 cd) ∧ v.cell? ⟨b, 15, none⟩ = some (.slice pa pn pc) ∧ v.cell? ⟨b, 16, none⟩ = some (.bool ys) := ⟨h.box.cell (j := 0) rfl, h.box.cell (j := 1) rfl, h.box.cell (j := 2) rfl, h.box.cell (j := 3) rfl, h.box.cell (j := 4) rfl, h.box.cell (j := 5) rfl, h.box.cell (j := 6) rfl, h.box.cell (j := 7) rfl, h.box.cell (j := 8) rfl, h.box.cell (j := 9) rfl, h.box.cell (j := 10) rfl, h.box.cell (j := 11) rfl, h.box.cell (j := 12) rfl, h.box.cell (j := 13) rfl, h.box.cell (j := 14) rfl, h.box.cell (j := 15) rfl, h.box.cell (j := 16) rfl⟩
set_option maxHeartbeats 16000000 in
set_option maxRecDepth 20000 in
theorem lawMsgOk_walk (kd c e n sh nu st k : Int) (ky vl lo hi : ByteArray) (mo : Int) (bk : Bool) (cd : Int) (pa : Option Addr) (pn pc : Nat) (ps : List PB) (ys : Bool) (w : World) (h : (ky.size ≤ maxLen ∧ vl.size ≤ maxLen ∧ lo.size ≤ maxLen ∧ hi.size ≤ maxLen) ∧ Pr w (fun _ => True) (.slice pa pn pc) ps ∧ szOkP ps) :
    Calls Try.prog 5 #[.agg #[.int .i64 kd, .int .i64 c, .int .i64 e, .int .i64 n, .int .i64 sh, .int .i64 nu, .int .i64 st, .int .i64 k, .string ky, .string vl, .string lo, .string hi, .int .i64 mo, .bool bk, .int .i64 cd, .slice pa pn pc, .bool ys]] w fun e w' => e = .returned (.bool true) ∧ Below w.heap.size w w' := by
  unfold maxLen at h
  have X0 := hid (MX.start (kd := kd) (c := c) (e := e) (n := n) (sh := sh) (nu := nu) (st := st) (k := k) (ky := ky) (vl := vl) (lo := lo) (hi := hi) (mo := mo) (bk := bk) (cd := cd) (ys := ys) h.2.1)
  have HZ1 := hid h.2.2
  have HL := hid h.1
  clear h
  go_enter Try.func5, Try.ntmps5
  go_wp2_with (refine wpList_load_row rfl 40 _ rfl w.heap.size rfl 40 _ (0, 0) _ X0.out.kA Try.underlying40 rfl (by kernel_rfl) ?_)
  refine (szMsg_any _ ps kd c e n sh nu st k ky vl lo hi mo bk cd pa pn pc ys _ X0.out.hA HZ1.out HL.out).mono ?_
  generalize w.alloc (.cells #[.int .i64 kd, .int .i64 c, .int .i64 e, .int .i64 n, .int .i64 sh, .int .i64 nu, .int .i64 st, .int .i64 k, .string ky, .string vl, .string lo, .string hi, .int .i64 mo, .bool bk, .int .i64 cd, .slice pa pn pc, .bool ys] 40) = U at *
  rintro r w1 ⟨⟨x, rfl, hx1, hx2, hx3⟩, hb⟩
  have X1 := hid (X0.out.below hb)
  clear hb X0
  by_cases hneg : x < 0
  · clear hx3
    go_wp2
    go_ret
    exact ⟨rfl, X1.out.bel⟩
  · have m0 := hx3 (by omega)
    clear hx3
    go_wp2_with (refine wpList_load_row rfl 40 _ rfl w.heap.size rfl 40 _ (0, 0) _ X1.out.kA Try.underlying40 rfl (by kernel_rfl) ?_)
    refine (toMsg_any _ ps kd c e n sh nu st k ky vl lo hi mo bk cd pa pn pc ys _ X1.out.hA m0).mono ?_
    rintro r w2 ⟨g0, rfl, hO, hb⟩
    have X2 := hid (X1.out.below hb)
    have C2 := hid hO
    clear hb X1 hO
    go_wp2_with fail
    refine (specMsgOk_any (fun _ => True) ps kd c e n sh nu st k ky vl lo hi mo bk cd _ pn pn ys _ C2.out.r).mono ?_
    rintro r w3 ⟨rfl, hb⟩
    have X3 := hid (X2.out.below hb)
    clear hb X2 C2
    go_wp2_with (refine wpList_load_row rfl 40 _ rfl w.heap.size rfl 40 _ (0, 0) _ X3.out.kA Try.underlying40 rfl (by kernel_rfl) ?_)
    refine (toMsg_any _ ps kd c e n sh nu st k ky vl lo hi mo bk cd pa pn pc ys _ X3.out.hA m0).mono ?_
    rintro r w4 ⟨h0, rfl, hO, hb⟩
    have X4 := hid (X3.out.below hb)
    obtain ⟨B4, HB4⟩ : ∃ B4, w3.heap.size = B4 := ⟨_, rfl⟩
    rw [HB4] at hO
    have C4 := hid (MB9.new (kd := kd) (c := c) (e := e) (n := n) (sh := sh) (nu := nu) (st := st) (k := k) (ky := ky) (vl := vl) (lo := lo) (hi := hi) (mo := mo) (bk := bk) (cd := cd) (ys := ys) hO)
    clear hb X3 hO HB4
    have hb := below_new (o := .cells #[.int .i64 kd, .int .i64 c, .int .i64 e, .int .i64 n, .int .i64 sh, .int .i64 nu, .int .i64 st, .int .i64 k, .string ky, .string vl, .string lo, .string hi, .int .i64 mo, .bool bk, .int .i64 cd, .slice (some ⟨h0, 0, none⟩) pn pn, .bool ys] 46) (w := w4) (Below.refl _ _)
    have X5 := hid (X4.out.below hb)
    clear hb X4
    go_wp2_with (first
      | (refine wpList_store_row rfl 46 _ _ rfl w4.heap.size _ rfl rfl 46 _ (heap_alloc_new w4 _) (by kernel_rfl) rfl rfl ?_; rw [World.setRow_alloc_new])
      | (refine wpList_load_row rfl 46 _ rfl w4.heap.size rfl 46 _ (0, 0) _ C4.out.box Try.underlying46 rfl (by kernel_rfl) ?_))
    refine (implMsgOk_any (fun _ => True) ps kd c e n sh nu st k ky vl lo hi mo bk cd _ pn pn ys _ C4.out.own.r).mono ?_
    generalize w4.alloc (.cells #[.int .i64 kd, .int .i64 c, .int .i64 e, .int .i64 n, .int .i64 sh, .int .i64 nu, .int .i64 st, .int .i64 k, .string ky, .string vl, .string lo, .string hi, .int .i64 mo, .bool bk, .int .i64 cd, .slice (some ⟨h0, 0, none⟩) pn pn, .bool ys] 46) = w5 at *
    generalize w4.heap.size = b4 at *
    rintro r w6 ⟨rfl, hb⟩
    have X6 := hid (X5.out.below hb)
    have C6 := hid (C4.out.below hb)
    clear hb X5 C4
    generalize mgOk kd c e n sh nu st (akOk k ky vl lo hi mo bk) (akZ k ky vl lo hi mo bk) cd ps ys = Z at *
    have hne : (Z != Z) = false := by simp

    have X7 := hid (X6.out.below (below_drew _))
    have C7 := hid (C6.out.below (below_drew _))
    clear X6 C6
    go_wp2_with fail
    refine wp_region_noPanic ?_
    refine wp_region_held_drew (S := fun v => MX w v w.heap.size kd c e n sh nu st k ky vl lo hi mo bk cd pa pn pc ys ps ∧ MB9 v b4 B4 kd c e n sh nu st k ky vl lo hi mo bk cd (some ⟨h0, 0, none⟩) pn pn ys ps) (by kernel_rfl) (⟨X7.out, C7.out⟩) (fun hHeld => ?_)
    simp only [List.size_toArray, List.length_cons, List.length_nil, Array.replicate_succ, Array.replicate_zero, Nat.reduceAdd, List.push_toArray, List.nil_append, List.cons_append]
    refine wpAnyH_take (i := 0) (v := .agg #[.int .i64 kd, .int .i64 c, .int .i64 e, .int .i64 n, .int .i64 sh, .int .i64 nu, .int .i64 st, .int .i64 k, .string ky, .string vl, .string lo, .string hi, .int .i64 mo, .bool bk, .int .i64 cd, .slice (some ⟨h0, 0, none⟩) pn pn, .bool ys]) rfl (by kernel_rfl) (by kernel_rfl) (by kernel_rfl) (fun _ _ _ h => h) (Or.inl ⟨by rfl, ?_⟩) (by assumption) ?_
    · intro w hSw
      exact ex_load 46 _ rfl b4 rfl 46 _ (0, 0) _ hSw.2.box Try.underlying46 rfl (by kernel_rfl)
    try simp only [List.getElem_toArray]
    try simp only [List.getElem_cons_succ]
    try simp only [List.getElem_cons_zero]
    try simp only [Act.put]
    try simp only [List.setIfInBounds_toArray]
    try simp only [List.set_cons_succ]
    try simp only [List.set_cons_zero]
    refine wpAnyH_take (i := 1) (v := .agg #[.int .i64 kd, .int .i64 c, .int .i64 e, .int .i64 n, .int .i64 sh, .int .i64 nu, .int .i64 st, .int .i64 k, .string ky, .string vl, .string lo, .string hi, .int .i64 mo, .bool bk, .int .i64 cd, .slice pa pn pc, .bool ys]) rfl (by kernel_rfl) (by kernel_rfl) (by kernel_rfl) (fun _ _ _ h => h) (Or.inl ⟨by rfl, ?_⟩) (by assumption) ?_
    · intro w hSw
      exact ex_load 40 _ rfl _ rfl 40 _ (0, 0) _ hSw.1.kA Try.underlying40 rfl (by kernel_rfl)
    try simp only [List.getElem_toArray]
    try simp only [List.getElem_cons_succ]
    try simp only [List.getElem_cons_zero]
    try simp only [Act.put]
    try simp only [List.setIfInBounds_toArray]
    try simp only [List.set_cons_succ]
    try simp only [List.set_cons_zero]
    refine wpAnyH_ready (rs := [2]) (by kernel_rfl) (by simp) ?_
    refine AllReadyH.cons rfl (fun K1 hK => ?_) AllReadyH.nil
    go_simp
    refine (toMsg_any _ ps kd c e n sh nu st k ky vl lo hi mo bk cd pa pn pc ys _ hHeld.1.hA m0).mono ?_
    rintro r w8 ⟨f0, rfl, hO8, hb8⟩
    have hH8 := And.intro (hHeld.1.below hb8) (hHeld.2.below hb8)
    clear hHeld
    go_wp2_with fail
    refine hK.out _ _ ?_ (fun hHeld => ?_)
    · exact hH8
    clear hK K1
    try simp only [List.getElem_toArray]
    try simp only [List.getElem_cons_succ]
    try simp only [List.getElem_cons_zero]
    try simp only [Act.put]
    try simp only [List.setIfInBounds_toArray]
    try simp only [List.set_cons_succ]
    try simp only [List.set_cons_zero]
    refine wpAnyH_ready (rs := [3]) (by kernel_rfl) (by simp) ?_
    refine AllReadyH.cons rfl (fun K1 hK => ?_) AllReadyH.nil
    go_simp
    refine (eqMsg_same (fun _ => True) (fun _ => True) ps kd c e n sh nu st k ky vl lo hi mo bk cd _ _ _ ys _ _ _ _ hHeld.2.own.r hO8.r).mono ?_
    rintro r w9 ⟨rfl, hb9⟩
    have hH9 := And.intro (hHeld.1.below hb9) (hHeld.2.below hb9)
    clear hHeld
    go_wp2_with fail
    refine hK.out _ _ ?_ (fun hHeld => ?_)
    · exact hH9
    clear hK K1
    try simp only [List.getElem_toArray]
    try simp only [List.getElem_cons_succ]
    try simp only [List.getElem_cons_zero]
    try simp only [Act.put]
    try simp only [List.setIfInBounds_toArray]
    try simp only [List.set_cons_succ]
    try simp only [List.set_cons_zero]
    refine wpAnyH_take (i := 4) (v := .bool false) rfl (by kernel_rfl) (by kernel_rfl) (by kernel_rfl) (fun _ _ _ h => h) (Or.inl ⟨by rfl, ?_⟩) (by assumption) ?_
    · intro w hSw
      go_simp
    try simp only [List.getElem_toArray]
    try simp only [List.getElem_cons_succ]
    try simp only [List.getElem_cons_zero]
    try simp only [Act.put]
    try simp only [List.setIfInBounds_toArray]
    try simp only [List.set_cons_succ]
    try simp only [List.set_cons_zero]
    refine wpAnyH_done (by kernel_rfl) ?_ _
    refine NoPanic.normal ?_
    go_wp2
    go_ret
    exact ⟨rfl, hHeld.1.bel⟩
end Go.Proofs.Ytbonkheoeohaiaa

