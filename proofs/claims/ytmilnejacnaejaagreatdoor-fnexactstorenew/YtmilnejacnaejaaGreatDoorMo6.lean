/-
  l06Load of the specification.
-/
import Derived.Test.YtmilnejacnaejaaGreatDoorMo5
import Derived.Test.YtmilnejacnaejaaGreatDoorMo4
import Derived.Test.YtmilnejacnaejaaGreatDoorMo3
import Derived.Deep.RegionLaw
import Derived.Deep.DeepCutAuto
namespace Go.Proofs.YtmilnejacnaejaaGreatDoor
open Go.RowKit
set_option linter.unusedVariables false
structure NM (U v : World) (xa : Option Addr) (xn xc : Nat) (l : List PB) : Prop where
  bel : Below U.heap.size U v
  k2 : Bk v U.heap.size 97 [.slice xa xn xc, .slice none 0 0, .slice none 0 0]
  own : v.ownsRow (U.heap.size + 1) 161 2 (.slice xa xn xc) l.length (pcs l)
open Go.RowKit
set_option linter.unusedVariables false
theorem bt5 {u v w : World} (h : Below u.heap.size u v) (k : Below v.heap.size v w) : Below u.heap.size u w := h.trans (k.mono h.size)
structure DX (w v : World) (sa : Option Addr) (sn sc : Nat) (da : Option Addr) (dn dc : Nat) (d : DK) : Prop where
  bel : Below w.heap.size w v
  kA : Bk v w.heap.size 40 [.slice sa sn sc, .slice da dn dc]
  hA : Dk v (fun b => b < w.heap.size) sa sn sc da dn dc d
open Go.RowKit
set_option linter.unusedVariables false
structure DB (v : World) (b B : Nat) (sa : Option Addr) (sn sc : Nat) (da : Option Addr) (dn dc : Nat) (V : List Value) (U : List (Int × Value)) (d : DK) : Prop where
  box : Bk v b 25 [.slice sa sn sc, .slice da dn dc]
  own : DO v B (.slice sa sn sc) V (.slice da dn dc) U d
  sep : ∀ y, dbl (.slice sa sn sc) V (.slice da dn dc) U y → y < b
structure DQ5 (v : World) (b : Nat) (sa : Option Addr) (sn sc : Nat) (da : Option Addr) (dn dc : Nat) (V : List Value) (U : List (Int × Value)) (d : DK) (k : Nat) : Prop where
  box : Bk v b 25 [.slice sa sn sc, .slice da dn dc]
  own : DM v (.slice sa sn sc) V (.slice da dn dc) U d k
open Go.RowKit Go.Shelf
set_option linter.unusedVariables false
attribute [local go_sem] Oper.semAt_some
theorem results_rb {fn : Func} {p u : Tmp} (h : fn.results = #[.cell p 71, .cell u 4]) (tmps : Array Value) (w : World) (g g' : Nat) {x y : Value} (hp : tmps.getD p undef = .pointer (some ⟨g, 0, none⟩)) (hu : tmps.getD u undef = .pointer (some ⟨g', 0, none⟩))
    (c0 : w.cell? ⟨g, 0, none⟩ = some x) (c1 : w.cell? ⟨g', 0, none⟩ = some y) : (results fn tmps).run Tryz.prog w = .ok (.tuple #[x, y]) w := by
  have hp' : tmps[p]?.getD undef = .pointer (some ⟨g, 0, none⟩) := by simpa using hp
  have hu' : tmps[u]?.getD undef = .pointer (some ⟨g', 0, none⟩) := by simpa using hu
  have l0 : (loadVar 71 ⟨g, 0, none⟩).run Tryz.prog w = .ok x w := by go_simp
  have l1 : (loadVar 4 ⟨g', 0, none⟩).run Tryz.prog w = .ok y w := by go_simp
  simp [results, h, hp', hu', asAddr, l0, l1, Result.andThen]
theorem bk_keeps {X Y : World} {row : Option Nat} {g : Nat} {T : TypeId} {xs : List Value} (h : Bk X g T xs) (hg : X.grownBy Y row) (hr : ∀ r, row = some r → ∃ o : Obj, X.heap[r]? = some o ∧ o.isCells = false) : Bk Y g T xs :=
  (hg.block g h.lt (fun e => by obtain ⟨o, ho, hc⟩ := hr g e.symm; rw [show X.heap[g]? = _ from h] at ho; cases ho; cases hc)).trans h
theorem ob_keeps {X Y : World} {row : Option Nat} {B : Nat} {v : Value} {zs : List Int} (h : Ob X B v zs) (hg : X.grownBy Y row) (hr : ∀ r, row = some r → ∃ o : Obj, X.heap[r]? = some o ∧ o.isCells = false) : Ob Y B v zs := by
  have hlt := World.ownsRow.lt h
  refine ⟨h.1, h.2.imp id ?_⟩
  rintro ⟨g, cap, cur, rfl, k3, k4, k5⟩
  exact ⟨g, cap, cur, rfl, k3, (hg.block g (hlt g rfl).2 (fun e => by obtain ⟨o, ho, hc⟩ := hr g e.symm; rw [k4] at ho; cases ho; cases hc)).trans k4, k5⟩
theorem lastW_skip (ds : List DW) (t : Int) (n : Nat) : ∀ k, k ≤ n → (∀ i ∈ dnTo n k, (dwAt ds i).1 ≠ t) → lastW ds t n = lastW ds t (n - k) := by
  intro k
  induction k with
  | zero => intro _ _; rfl
  | succ k ih =>
    intro hk h
    rw [ih (by omega) (fun i hi => h i (by rw [dnTo_succ]; exact List.mem_append.2 (.inl hi)))]
    have hj := h (n - 1 - k) (by rw [dnTo_succ]; simp)
    rw [show n - k = (n - (k + 1)) + 1 by omega, lastW, if_neg (by rw [show n - (k + 1) = n - 1 - k by omega]; exact hj)]
theorem dnTo_prefix {n : Nat} {pre : List Nat} {j : Nat} (h : pre ++ [j] <+: dnTo n n) : pre.length < n ∧ pre = dnTo n pre.length ∧ j = n - 1 - pre.length := by
  have hl := h.length_le
  rw [dnTo_length] at hl
  simp at hl
  have h1 := List.prefix_iff_eq_take.1 h
  have h2 := List.prefix_iff_eq_take.1 (dnTo_pre n (show pre.length + 1 ≤ n by omega))
  rw [dnTo_length] at h2
  simp only [List.length_append, List.length_cons, List.length_nil, Nat.zero_add] at h1
  rw [← h2, dnTo_succ] at h1
  have h3 := List.append_inj' h1 rfl
  exact ⟨by omega, h3.1, by simpa using h3.2⟩
theorem wrr_fun {w : World} {S : Nat → Prop} {a : Option Addr} {n c : Nat} {ds : List DW} (h : Wrr w S (.slice a n c) ds) : ∃ (A : Nat → Option Addr) (N C : Nat → Nat), (∀ i, By w S (.slice (A i) (N i) (C i)) (dwAt ds i).2) ∧ Lsw w.heap.size w a n (fun i => (dwAt ds i).1) A N C := by
  have hn := h.len.1
  have ex : ∀ i, ∃ p : Option Addr × Nat × Nat, By w S (.slice p.1 p.2.1 p.2.2) (dwAt ds i).2 ∧ ∀ b off, i < n → a = some ⟨b, off, none⟩ → w.cell? ⟨b, off + i * 2, none⟩ = some (.int .i64 (dwAt ds i).1) ∧ w.cell? ⟨b, off + i * 2 + 1, none⟩ = some (.slice p.1 p.2.1 p.2.2) := by
    intro i
    by_cases hi : i < n
    · obtain ⟨b, off, rfl, _, _, hc⟩ := h.at (by omega)
      obtain ⟨ap, np, cp, c0, c1, hb⟩ := hc i hi
      exact ⟨(ap, np, cp), hb, fun b' off' _ e => by cases e; exact ⟨c0, c1⟩⟩
    · have : dwAt ds i = (0, []) := by simp [dwAt, show ds.length ≤ i by omega]
      rw [this]
      exact ⟨(none, 0, 0), ⟨rw_nil _ _, fun j => by simp⟩, fun b off h => absurd h hi⟩
  obtain ⟨f, hf⟩ := Classical.axiomOfChoice ex
  refine ⟨fun i => (f i).1, fun i => (f i).2.1, fun i => (f i).2.2, fun i => (hf i).1, fun hp => ?_⟩
  obtain ⟨b, off, rfl, _, hb, _⟩ := h.at hp
  exact ⟨b, off, rfl, hb, fun i hi => (hf i).2 b off hi rfl⟩
theorem Lsw.mono {n₀ n₁ : Nat} {W : World} {a : Option Addr} {n : Nat} {T : Nat → Int} {A : Nat → Option Addr} {N C : Nat → Nat} (h : Lsw n₀ W a n T A N C) (hb : n₀ ≤ n₁) : Lsw n₁ W a n T A N C := by
  intro hp
  obtain ⟨b, off, rfl, hbn, hc⟩ := h hp
  exact ⟨b, off, rfl, by omega, hc⟩
theorem keepsFrom_below {B : Nat} {W W' : World} (h : Below W.heap.size W W') : KeepsFrom B W W' := ⟨h.size, fun k o _ hk _ => (h.block k (Array.getElem?_eq_some_iff.1 hk).1).trans hk⟩
structure Rx (w v : World) (sa : Option Addr) (sn sc : Nat) (da : Option Addr) (dn dc : Nat) (t : Int) : Prop where
  k0 : Bk v w.heap.size 25 [.slice sa sn sc, .slice da dn dc]
  k1 : Bk v (w.heap.size + 1) 3 [.int .i64 t]
  k2 : Bk v (w.heap.size + 1 + 1) 71 [.slice none 0 0]
  k3 : Bk v (w.heap.size + 1 + 1 + 1) 4 [.bool false]
theorem Rx.below {w v v' : World} {sa : Option Addr} {sn sc : Nat} {da : Option Addr} {dn dc : Nat} {t : Int} (h : Rx w v sa sn sc da dn dc t) (hb : Below v.heap.size v v') : Rx w v' sa sn sc da dn dc t := ⟨h.k0.below hb, h.k1.below hb, h.k2.below hb, h.k3.below hb⟩
set_option maxHeartbeats 8000000 in
set_option maxRecDepth 100000 in
theorem implDiskRead_any (S : Nat → Prop) (sa : Option Addr) (sn sc : Nat) (da : Option Addr) (dn dc : Nat) (d : DK) (t : Int) (w : World) (h : Dk w S sa sn sc da dn dc d) (hsm : smallD d) (he : Err w 0) (he2 : Err w 1) :
    Calls Tryz.prog 199 #[.agg #[.slice sa sn sc, .slice da dn dc], .int .i64 t] w fun e w' => RdPost (rdV d t) w e w' := by
  refine (callsIn_wide (n := 9)).1 ?_
  refine callsIn_of_wp_marks Tryz.func199 rfl trivial ?_ rfl
  simp only [Tryz.ntmps199, List.size_toArray, List.length_cons, List.length_nil, Nat.reduceAdd, Nat.reduceSub, Array.replicate_succ, Array.replicate_zero, List.push_toArray, List.append_toArray, List.nil_append, List.cons_append]
  have HH := hid h
  have HSM := hid hsm
  have HE := hid he
  have HE2 := hid he2
  have hsc := h.hs.len.2
  have hdc := h.hd.len.2
  have HNS := hid h.hs.len.1
  have HND := hid h.hd.len.1
  have HV : Hid (rdV d t = if dkOk d = true ∧ 0 ≤ t ∧ t < (d.sh.length : Int) then some ((lastW d.dw t d.dw.length).getD (sheet (shAt d.sh t.toNat))) else none) := rfl
  have HN : Hid (¬ (dkOk d = true ∧ 0 ≤ t ∧ t < (d.sh.length : Int)) → rdV d t = none) := fun hh => by rw [HV.out, if_neg hh]
  have X0 : Hid (Rx w ((((w.alloc (.cells #[.slice sa sn sc, .slice da dn dc] 25)).alloc (.cells #[.int .i64 t] 3)).alloc (.cells #[.slice none 0 0] 71)).alloc (.cells #[.bool false] 4)) sa sn sc da dn dc t) := by
    refine ⟨(((Bk.new w 25 [.slice sa sn sc, .slice da dn dc]).alloc _).alloc _).alloc _, ?_, ?_, ?_⟩
    · have := ((Bk.new (w.alloc (.cells #[.slice sa sn sc, .slice da dn dc] 25)) 3 [.int .i64 t]).alloc (.cells #[.slice none 0 0] 71)).alloc (.cells #[.bool false] 4)
      simpa using this
    · have := (Bk.new ((w.alloc (.cells #[.slice sa sn sc, .slice da dn dc] 25)).alloc (.cells #[.int .i64 t] 3)) 71 [.slice none 0 0]).alloc (.cells #[.bool false] 4)
      simpa using this
    · have := Bk.new (((w.alloc (.cells #[.slice sa sn sc, .slice da dn dc] 25)).alloc (.cells #[.int .i64 t] 3)).alloc (.cells #[.slice none 0 0] 71)) 4 [.bool false]
      simpa using this
  have B0 : Hid (Below w.heap.size w ((((w.alloc (.cells #[.slice sa sn sc, .slice da dn dc] 25)).alloc (.cells #[.int .i64 t] 3)).alloc (.cells #[.slice none 0 0] 71)).alloc (.cells #[.bool false] 4))) := below_new (below_new (below_new (below_new (Below.refl _ _))))
  have HK := hid (implDiskOk_any S sa sn sc da dn dc d _ (h.below B0.out))
  clear h hsm he he2
  gi_wp2_with fail
  refine ⟨trivial, (callsIn_wide.2 HK.out).mono ?_⟩
  generalize (((w.alloc (.cells #[.slice sa sn sc, .slice da dn dc] 25)).alloc (.cells #[.int .i64 t] 3)).alloc (.cells #[.slice none 0 0] 71)).alloc (.cells #[.bool false] 4) = U at *
  rintro e w1 ⟨rfl, hb⟩
  have X1 := hid (X0.out.below hb)
  have B1 := hid (bt6 B0.out hb)
  clear hb HK X0 B0
  have HEND : Hid (∀ v : World, v = (w1.setCell ⟨w.heap.size + 1 + 1, 0, none⟩ (.slice none 0 0)).setCell ⟨w.heap.size + 1 + 1 + 1, 0, none⟩ (.bool false) → Below w.heap.size w v) := fun v e => by
    rw [e]
    exact (B1.out.setCell (p := ⟨w.heap.size + 1 + 1, 0, none⟩) (by show w.heap.size ≤ w.heap.size + 1 + 1; omega) _).setCell (p := ⟨w.heap.size + 1 + 1 + 1, 0, none⟩) (by show w.heap.size ≤ w.heap.size + 1 + 1 + 1; omega) _
  have c2 := X1.out.k2.cell (j := 0) rfl
  have f2 := X1.out.k2.free 0
  have c3 := X1.out.k3.cell (j := 0) rfl
  have f3 := X1.out.k3.free 0
  have c1 := X1.out.k1.cell (j := 0) rfl
  have d0 := X1.out.k0.cell (j := 0) rfl
  have d1 := X1.out.k0.cell (j := 1) rfl
  cases hok : dkOk d with
  | false =>
    have HF := hid (HN.out (by rw [hok]; simp))
    gi_wp2
    refine ⟨.tuple #[.slice none 0 0, .bool false], results_rb rfl _ _ _ _ rfl rfl (by go_simp) (by go_simp), ?_⟩
    rw [HF.out]
    exact ⟨_, _, _, rfl, World.ownsRow_nil _ _ _ _, HEND.out _ rfl⟩
  | true =>
    have HOK := hid hok
    clear hok
    by_cases t0 : t < 0
    · have HF := hid (HN.out (by omega))
      gi_wp2
      refine ⟨.tuple #[.slice none 0 0, .bool false], results_rb rfl _ _ _ _ rfl rfl (by go_simp) (by go_simp), ?_⟩
      rw [HF.out]
      exact ⟨_, _, _, rfl, World.ownsRow_nil _ _ _ _, HEND.out _ rfl⟩
    · by_cases t1 : (sn : Int) ≤ t
      · have HF := hid (HN.out (by rw [← HNS.out]; omega))
        gi_wp2
        refine ⟨.tuple #[.slice none 0 0, .bool false], results_rb rfl _ _ _ _ rfl rfl (by go_simp) (by go_simp), ?_⟩
        rw [HF.out]
        exact ⟨_, _, _, rfl, World.ownsRow_nil _ _ _ _, HEND.out _ rfl⟩
      · have HV2 : Hid (rdV d t = some ((lastW d.dw t d.dw.length).getD (sheet (shAt d.sh t.toNat)))) := by
          show _ = _
          rw [HV.out, if_pos ⟨HOK.out, by omega, by rw [← HNS.out]; omega⟩]
        clear HV HN HEND
        gi_wp2_with fail
        refine ⟨trivial, (behind_in Fence.wide _ trivial rfl _ _ _ _).mono ?_⟩
        rintro e w2 ⟨rfl, rfl⟩
        gi_wp2_with fail
        obtain ⟨A, N, C, hBY, hLS⟩ := wrr_fun HH.out.hd
        have hb2 := below_new (o := .cells #[.slice da dn dc] 23) (w := w1) (Below.refl _ _)
        have X2 := hid (X1.out.below hb2)
        have B2 := hid (bt6 B1.out hb2)
        have KB := hid (Bk.new w1 23 [.slice da dn dc])
        have S1 : Hid (w.heap.size + 4 ≤ w1.heap.size) := X1.out.k3.lt
        have S2 : Hid ((w1.alloc (.cells #[.slice da dn dc] 23)).heap.size = w1.heap.size + 1) := by show _ = _; simp
        clear hb2 X1 B1 c1 c2 c3 d0 d1 f2 f3
        generalize w1.alloc (.cells #[.slice da dn dc] 23) = W0 at *
        generalize w1.heap.size = b1 at *
        have s1 := S1.out
        have s2 := S2.out
        refine wpIn_rangeFunc_ownH rfl (by omega) (gf := 254) (lb := #[.pointer (some ⟨b1, 0, none⟩)]) rfl trivial (enters_of Tryz.func254 (by kernel_rfl) rfl)
          (behind_stops Fence.wide (9 - 1) trivial rfl (by omega) b1 W0.heap.size da dn dc (fun i => (dwAt d.dw i).1) A N C W0 (by omega) (Nat.le_refl _) (KB.out.cell (j := 0) rfl) ((hLS.below B2.out).mono (by omega)) hdc.1 hdc.2) belowK_t (belowK_b (Nat.le_refl _)) (Below.refl _ _) (fun _ => rfl)
          (fun pre W => (∀ j ∈ pre, (dwAt d.dw j).1 ≠ t) ∧ Below W0.heap.size W0 W)
          (fun c pre W => c = .ret ∧ (∃ j pre' a n c', pre = pre' ++ [j] ∧ (dwAt d.dw j).1 = t ∧ (∀ i ∈ pre', (dwAt d.dw i).1 ≠ t) ∧ Bk W (w.heap.size + 1 + 1) 71 [.slice a n c'] ∧ Bk W (w.heap.size + 1 + 1 + 1) 4 [.bool true] ∧ Ob W w.heap.size (.slice a n c') (dwAt d.dw j).2) ∧ Below w.heap.size w W)
          (OwnFrom.and (ownFrom_pure _ _) (ownFrom_below (Nat.le_refl _) (Nat.le_refl _)))
          (fun c s X Y row hs hg hr => by
            obtain ⟨e, ⟨j, pre', a, n, c', e1, e2, e3, k2, k3, hO⟩, hB⟩ := hs
            exact ⟨e, ⟨j, pre', a, n, c', e1, e2, e3, bk_keeps k2 hg (fun r e => (hr r e).2), bk_keeps k3 hg (fun r e => (hr r e).2), ob_keeps hO hg (fun r e => (hr r e).2)⟩, ownFrom_below (β := Unit) (Nat.le_refl _) (B := W0.heap.size) (by omega) () X Y row hB hg hr⟩)
          ⟨fun j hj => (by cases hj), Below.refl _ _⟩
          (fun x a' W => ∃ Bx, W0.heap.size ≤ Bx ∧ Bk W Bx 99 [.int .i64 (dwAt d.dw x).1, .slice (A x) (N x) (C x)] ∧ a' = { tmps := #[.agg #[.slice sa sn sc, .slice da dn dc], .int .i64 t, .pointer (some ⟨w.heap.size, 0, none⟩), .pointer (some ⟨w.heap.size + 1, 0, none⟩), .pointer (some ⟨w.heap.size + 1 + 1, 0, none⟩), .pointer (some ⟨w.heap.size + 1 + 1 + 1, 0, none⟩), .pointer (some ⟨Bx, 0, none⟩), .agg #[.slice sa sn sc, .slice da dn dc], .bool true, .bool false, .bool false, .int .i64 t, .bool (decide (t < 0)), .bool (decide (t < 0)), .bool (decide (t < 0)), .int .i64 t, .pointer (some ⟨w.heap.size, 0, none⟩), .slice sa sn sc, .int .i64 (sn : Int), .bool (decide ((sn : Int) ≤ t)), .bool (decide (t < 0) || decide ((sn : Int) ≤ t)), .pointer (some ⟨w.heap.size, 1, none⟩), .slice da dn dc, .func (.func 254) #[] #[.pointer (some ⟨b1, 0, none⟩)], .agg #[.int .i64 (dwAt d.dw x).1, .slice (A x) (N x) (C x)], undef, undef, undef, undef, undef, undef, undef, undef, undef, undef, undef, undef, undef, undef, undef, undef], defers := [] })
          (fun x a' _ X Y row hs hg hr => by obtain ⟨Bx, h1, h2, h3⟩ := hs; exact ⟨Bx, h1, bk_keeps h2 hg (fun r e => (hr r e).2), h3⟩)
          ?assign ?body ?done ?stop
        case assign =>
          rintro l pre x W K ⟨hne, hBW⟩ hK
          gi_wp2
          exact hK _ _ ((KeepsOthers.alloc _ _).from _) ((Below.refl _ W).alloc hBW.size _) ⟨hne, hBW.alloc hBW.size _⟩ ⟨W.heap.size, hBW.size, Bk.new W _ [_, _], rfl⟩
        case body =>
          rintro l pre x a' W hl ⟨r, hr⟩ ⟨hne, hBW⟩ ⟨Bx, hBx, kX, rfl⟩ hlt
          have e0 := kX.cell (j := 0) rfl
          have e1 := kX.cell (j := 1) rfl
          have XW := hid (X2.out.below hBW)
          have e2 := XW.out.k1.cell (j := 0) rfl
          have HW := hid hBW
          have HX := hid hBx
          have HNE := hid hne
          have BW := hid (bt6 B2.out hBW)
          clear hBW hBx hne hr
          generalize htt : (dwAt d.dw x).1 = tt at *
          have HTT := hid htt
          clear htt
          by_cases e : tt = t
          · subst e
            have hx1 : (dwAt d.dw x).2.length ≤ 1048576 := by
              by_cases hi : x < d.dw.length
              · exact HSM.out.2 x hi
              · simp [dwAt, show d.dw.length ≤ x by omega]
            have HRD := hid (((hBY x).below BW.out).rd (by rw [(hBY x).len.1]; exact hx1))
            have hxN : N x ≤ 1048576 := by rw [(hBY x).len.1]; exact hx1
            gi_wp2_with fail
            refine ⟨trivial, (CallsIn.inRound l (callsIn_wide.2 (copyBytes_any _ _ _ _ _ HRD.out hxN))).mono ?_⟩
            rintro e W3 ⟨v, rfl, hO, hb⟩
            obtain ⟨a3, c3, rfl⟩ := hO.shape
            have X3 := hid (XW.out.below hb)
            have c2 := X3.out.k2.cell (j := 0) rfl
            have f2 := X3.out.k2.free 0
            have c3' := X3.out.k3.cell (j := 0) rfl
            have f3 := X3.out.k3.free 0
            have HO := hid hO
            have HB := hid hb
            clear hO hb e0 e1 e2
            generalize hl3 : (dwAt d.dw x).2.length = L3 at *
            have HL3 := hid hl3
            clear hl3
            gi_wp2
            have hKF := ((keepsFrom_below (B := W0.heap.size) HB.out).trans ((KeepsOthers.setCell W3 ⟨w.heap.size + 1 + 1, 0, none⟩ (.slice a3 L3 c3)).from _)).trans ((KeepsOthers.setCell (W3.setCell ⟨w.heap.size + 1 + 1, 0, none⟩ (.slice a3 L3 c3)) ⟨w.heap.size + 1 + 1 + 1, 0, none⟩ (.bool true)).from _)
            have hBl := HW.out.size
            refine ⟨hKF, rfl, ⟨x, pre, a3, L3, c3, rfl, HTT.out, HNE.out, (X3.out.k2.set 0 _).setOther (by omega) 0 _, (X3.out.k3.setOther (by omega) 0 _).set 0 _, ?_⟩, ?_⟩
            · have O1 : Only (fun y => y < W.heap.size) W3 ((W3.setCell ⟨w.heap.size + 1 + 1, 0, none⟩ (.slice a3 L3 c3)).setCell ⟨w.heap.size + 1 + 1 + 1, 0, none⟩ (.bool true)) := (only_set (R := fun y => y < W.heap.size) (by show w.heap.size + 1 + 1 < _; omega) _).trans (only_set (R := fun y => y < W.heap.size) (by show w.heap.size + 1 + 1 + 1 < _; omega) _)
              exact ownD_base (own_kept HO.out O1 (fun y e e2 => by have := (World.ownsRow.lt HO.out y e).1; omega)) (by omega)
            · exact ((bt6 BW.out HB.out).setCell (p := ⟨w.heap.size + 1 + 1, 0, none⟩) (by show w.heap.size ≤ w.heap.size + 1 + 1; omega) _).setCell (p := ⟨w.heap.size + 1 + 1 + 1, 0, none⟩) (by show w.heap.size ≤ w.heap.size + 1 + 1 + 1; omega) _
          · have e' : (tt == t) = false := by simp [e]
            gi_wp2
            refine ⟨KeepsFrom.refl _ _, Below.refl _ _, fun j hj => ?_, HW.out⟩
            rcases List.mem_append.1 hj with hj | hj
            · exact HNE.out j hj
            · simp at hj
              subst hj
              rw [HTT.out]
              exact e
        case done =>
          rintro D ys W hD rfl ⟨hne, hBW⟩ hK
          have BW := hid (bt6 B2.out hBW)
          have XW := hid (X2.out.below hBW)
          have HW := hid hBW
          have HDD := hid hD
          have HKK := hid hK
          have HLW : Hid (lastW d.dw t d.dw.length = none) := by
            show _ = _
            rw [← HND.out, lastW_skip d.dw t dn dn (Nat.le_refl _) hne, Nat.sub_self]
            rfl
          clear hBW hne hD hK
          obtain ⟨u, hu⟩ : ∃ u : Nat, t = (u : Int) := ⟨t.toNat, by omega⟩
          subst hu
          obtain ⟨b, off, rfl, _, hbw, hcell⟩ := (HH.out.hs.below BW.out).at (by omega)
          obtain ⟨ap, np, cp, m0, hp⟩ := hcell u (by omega)
          have hul : u < d.sh.length := by rw [← HNS.out]; omega
          have hnp : np ≤ 1048576 := by rw [hp.len.1]; exact HSM.out.1 u hul
          have HC := hid (sheetBytes_any ap np cp (shAt d.sh u) W (hp.rd hnp) (HE.out.below BW.out HE.out.lt) (HE2.out.below BW.out HE2.out.lt))
          have HSV : Hid (shV (shAt d.sh u) = some (sheet (shAt d.sh u))) := by
            show _ = _
            rw [shV, if_pos]
            rw [shOk_sht]
            exact ((dkOk_iff d).1 HOK.out).2.2.2.1 u hul
          have HV3 : Hid (rdV d (u : Int) = some (sheet (shAt d.sh u))) := by
            show _ = _
            rw [HV2.out, HLW.out]
            simp
          have hu2 : (u : Int) < (sn : Int) := by omega
          have c1 := XW.out.k1.cell (j := 0) rfl
          have d0 := XW.out.k0.cell (j := 0) rfl
          clear hcell hbw hp
          gi_wp2_with fail
          refine ⟨trivial, (callsIn_wide.2 HC.out).mono ?_⟩
          intro e W3 hput
          rw [HSV.out] at hput
          rcases hput.2 with ⟨h, _⟩ | ⟨v, out, ho, rfl, hO⟩
          · cases h
          · cases ho
            obtain ⟨a3, c3, rfl⟩ := hO.shape
            have hb := hput.1
            have X3 := hid (XW.out.below hb)
            have c2 := X3.out.k2.cell (j := 0) rfl
            have f2 := X3.out.k2.free 0
            have c3' := X3.out.k3.cell (j := 0) rfl
            have f3 := X3.out.k3.free 0
            have HO := hid hO
            have HB := hid hb
            have hK3 : W3.heap[D]? = some (.deferred (some [])) := (hb.block D (Array.getElem?_eq_some_iff.1 HKK.out).1).trans HKK.out
            have HK3 := hid hK3
            clear hO hb hput c1 d0 m0 hK3
            generalize hl3 : (sheet (shAt d.sh u)).length = L3 at *
            gi_wp2
            have hK4 := (KeepsOthers.setCell W3 ⟨w.heap.size + 1 + 1, 0, none⟩ (.slice a3 L3 c3)).same D _ HK3.out rfl
            have hK5 := (KeepsOthers.setCell (W3.setCell ⟨w.heap.size + 1 + 1, 0, none⟩ (.slice a3 L3 c3)) ⟨w.heap.size + 1 + 1 + 1, 0, none⟩ (.bool true)).same D _ hK4 rfl
            refine ⟨by simp, .inl ⟨_, _, rfl, run_takeDeferred hK5, ?_⟩⟩
            have hBl := HW.out.size
            have hDl := HDD.out
            have kk2 := bk_keeps ((X3.out.k2.set 0 (.slice a3 L3 c3)).setOther (b := w.heap.size + 1 + 1 + 1) (by omega) 0 (.bool true)) (grownBy_putObj' _ D (.deferred none)) (fun r e => by cases e; exact ⟨_, hK5, rfl⟩)
            have kk3 := bk_keeps ((X3.out.k3.setOther (b := w.heap.size + 1 + 1) (by omega) 0 (.slice a3 L3 c3)).set 0 (.bool true)) (grownBy_putObj' _ D (.deferred none)) (fun r e => by cases e; exact ⟨_, hK5, rfl⟩)
            refine ⟨.tuple #[.slice a3 L3 c3, .bool true], results_rb rfl _ _ _ _ rfl rfl (kk2.cell (j := 0) rfl) (kk3.cell (j := 0) rfl), ?_⟩
            rw [HV3.out]
            refine ⟨_, _, _, rfl, ?_, ?_⟩
            · have O1 : Only (fun y => y < W.heap.size) W3 ((W3.setCell ⟨w.heap.size + 1 + 1, 0, none⟩ (.slice a3 L3 c3)).setCell ⟨w.heap.size + 1 + 1 + 1, 0, none⟩ (.bool true)) := (only_set (R := fun y => y < W.heap.size) (by show w.heap.size + 1 + 1 < _; omega) _).trans (only_set (R := fun y => y < W.heap.size) (by show w.heap.size + 1 + 1 + 1 < _; omega) _)
              exact ob_keeps (ownD_base (own_kept HO.out O1 (fun y e e2 => by have := (World.ownsRow.lt HO.out y e).1; omega)) (by omega)) (grownBy_putObj' _ D (.deferred none)) (fun r e => by cases e; exact ⟨_, hK5, rfl⟩)
            · exact ((((bt6 BW.out HB.out).setCell (p := ⟨w.heap.size + 1 + 1, 0, none⟩) (by show w.heap.size ≤ w.heap.size + 1 + 1; omega) _).setCell (p := ⟨w.heap.size + 1 + 1 + 1, 0, none⟩) (by show w.heap.size ≤ w.heap.size + 1 + 1 + 1; omega) _)).trans (belowK_b (w := w) (Nat.le_refl _) _ D _ _ (by omega) hK5 rfl rfl)
        case stop =>
          rintro D c pre W hD hpre ⟨rfl, ⟨j, pre', a, n, c', rfl, hT, hne, k2, k3, hO⟩, hB⟩ hK
          obtain ⟨p1, p2, p3⟩ := dnTo_prefix hpre
          have HV3 : Hid (rdV d t = some (dwAt d.dw j).2) := by
            show _ = _
            rw [p2] at hne
            rw [HV2.out, ← HND.out, lastW_skip d.dw t dn _ (by omega) hne, show dn - pre'.length = (dn - 1 - pre'.length) + 1 by omega, lastW, ← p3, if_pos hT]
            rfl
          have HK2 := hid k2
          have HK3 := hid k3
          have HO := hid hO
          have HB := hid hB
          have HKK := hid hK
          have HDD := hid hD
          clear k2 k3 hO hB hK hD hne hpre p1 p2 p3
          gi_wp2
          have hDl := HDD.out
          refine ⟨by simp, .inl ⟨_, _, rfl, run_takeDeferred HKK.out, ?_⟩⟩
          have kk2 := bk_keeps HK2.out (grownBy_putObj' _ D (.deferred none)) (fun r e => by cases e; exact ⟨_, HKK.out, rfl⟩)
          have kk3 := bk_keeps HK3.out (grownBy_putObj' _ D (.deferred none)) (fun r e => by cases e; exact ⟨_, HKK.out, rfl⟩)
          refine ⟨.tuple #[.slice a n c', .bool true], results_rb rfl _ _ _ _ rfl rfl (kk2.cell (j := 0) rfl) (kk3.cell (j := 0) rfl), ?_⟩
          rw [HV3.out]
          exact ⟨_, _, _, rfl, ob_keeps HO.out (grownBy_putObj' _ D (.deferred none)) (fun r e => by cases e; exact ⟨_, HKK.out, rfl⟩), HB.out.trans (belowK_b (w := w) (Nat.le_refl _) W D _ _ (by omega) HKK.out rfl rfl)⟩
open Go.RowKit
open Go.RowKit
set_option linter.unusedVariables false
theorem byt_nil : byt [] := fun i => by simp
theorem Dk.bytes {w : World} {S : Nat → Prop} {sa : Option Addr} {sn sc : Nat} {da : Option Addr} {dn dc : Nat} {d : DK} (h : Dk w S sa sn sc da dn dc d) : (∀ i, byt (shAt d.sh i)) ∧ ∀ i, byt (dwAt d.dw i).2 := by
  obtain ⟨V, h1, h2, h3⟩ := h.hs
  obtain ⟨U, k1, k2, k3⟩ := h.hd
  refine ⟨fun i => ?_, fun i => ?_⟩
  · by_cases hi : i < d.sh.length
    · exact (h3 i hi).2
    · rw [show shAt d.sh i = [] by simp [shAt, show d.sh.length ≤ i by omega]]; exact byt_nil
  · by_cases hi : i < d.dw.length
    · exact (k3 i hi).2.2
    · rw [show dwAt d.dw i = (0, []) by simp [dwAt, show d.dw.length ≤ i by omega]]; exact byt_nil
theorem byt_sheet {l : List Int} (h : byt l) : byt (sheet l) := by
  unfold sheet
  split
  · intro i
    rw [List.getElem?_replicate]
    split <;> exact ⟨by decide, by decide⟩
  · exact h
theorem lastW_facts {ds : List DW} {t : Int} (hb : ∀ i, byt (dwAt ds i).2) : ∀ k, k ≤ ds.length → (∀ i, i < ds.length → (dwAt ds i).2.length = 512) → ∀ z, lastW ds t k = some z → byt z ∧ z.length = 512 := by
  intro k
  induction k with
  | zero => intro _ _ z hz; cases hz
  | succ k ih =>
    intro hk hl z hz
    rw [lastW] at hz
    split at hz
    · cases hz; exact ⟨hb k, hl k (by omega)⟩
    · exact ih (by omega) hl z hz
theorem rdV_facts {d : DK} (hb : (∀ i, byt (shAt d.sh i)) ∧ ∀ i, byt (dwAt d.dw i).2) (t : Int) : byt ((rdV d t).getD []) ∧ ((rdV d t).getD []).length ≤ 512 := by
  unfold rdV
  split
  · rename_i hh
    obtain ⟨hok, h0, h1⟩ := hh
    have hk := (dkOk_iff d).1 hok
    rw [Option.getD_some]
    cases e : lastW d.dw t d.dw.length with
    | some z =>
      have := lastW_facts hb.2 d.dw.length (Nat.le_refl _) (fun i hi => ((wrtOk_iff _ _).1 (hk.2.2.2.2 i hi)).2.2) z e
      exact ⟨this.1, by rw [Option.getD_some]; omega⟩
    | none =>
      rw [Option.getD_none]
      exact ⟨byt_sheet (hb.1 _), Nat.le_of_eq (sheet_len (by rw [shOk_sht]; exact hk.2.2.2.1 _ (by omega)))⟩
  · exact ⟨byt_nil, by simp⟩
theorem ob_rd {w : World} {B : Nat} {a : Option Addr} {n c : Nat} {zs : List Int} (h : Ob w B (.slice a n c) zs) (hb : byt zs) (hl : zs.length ≤ 1048576) : Rd w a n c zs ∧ n = zs.length := by
  obtain ⟨a', c', e, hr, _⟩ := Ob.rd h hb (by omega)
  cases e
  exact ⟨hr, rfl⟩
open Go.RowKit
theorem mtHead_len (g r : Int) : (mtHead g r).length = 8 := rfl
theorem zAt_head (g r : Int) {i : Nat} (h : i < 8) : zAt (mtFull g r) i = zAt (mtHead g r) i := by
  unfold zAt mtFull
  rw [List.getElem?_append_left (by rw [List.length_append, mtHead_len, List.length_replicate]; omega), List.getElem?_append_left (by rw [mtHead_len]; exact h)]
theorem zAt_tail (g r : Int) (k : Nat) : zAt (mtFull g r) (507 + k) = zAt (five g) k := by
  unfold zAt mtFull
  have hl : (mtHead g r ++ List.replicate 499 0).length = 507 := by rw [List.length_append, mtHead_len, List.length_replicate]
  rw [List.getElem?_append_right (by omega), hl, Nat.add_sub_cancel_left]
theorem digs (g r : Int) : (zAt (mtFull g r) 1 = g / 4294967296 % 256 ∧ zAt (mtFull g r) 2 = g / 16777216 % 256 ∧ zAt (mtFull g r) 3 = g / 65536 % 256 ∧ zAt (mtFull g r) 4 = g / 256 % 256 ∧ zAt (mtFull g r) 5 = g / 1 % 256) ∧
    (zAt (mtFull g r) 507 = g / 4294967296 % 256 ∧ zAt (mtFull g r) 508 = g / 16777216 % 256 ∧ zAt (mtFull g r) 509 = g / 65536 % 256 ∧ zAt (mtFull g r) 510 = g / 256 % 256 ∧ zAt (mtFull g r) 511 = g / 1 % 256) ∧
    zAt (mtFull g r) 6 = r / 256 ∧ zAt (mtFull g r) 7 = r % 256 := by
  refine ⟨⟨?_, ?_, ?_, ?_, ?_⟩, ⟨zAt_tail g r 0, zAt_tail g r 1, zAt_tail g r 2, zAt_tail g r 3, zAt_tail g r 4⟩, ?_, ?_⟩
  all_goals
    rw [zAt_head g r (by omega)]
    rfl
theorem dig_inj {x y : Int} (hx : 0 ≤ x ∧ x ≤ 1099511627777) (hy : 0 ≤ y ∧ y ≤ 1099511627777) (hx2 : x < 1099511627776) (hy2 : y < 1099511627776) (h1 : x / 4294967296 % 256 = y / 4294967296 % 256) (h2 : x / 16777216 % 256 = y / 16777216 % 256) (h3 : x / 65536 % 256 = y / 65536 % 256) (h4 : x / 256 % 256 = y / 256 % 256) (h5 : x / 1 % 256 = y / 1 % 256) : x = y := by omega
theorem mcd_full {g r : Int} (hok : mtOk g r = true) : mcd (mtFull g r) = (g, r) := by
  obtain ⟨g0, g1, r0, r1⟩ := mtOk_facts hok
  obtain ⟨⟨d1, d2, d3, d4, d5⟩, _, d6, d7⟩ := digs g r
  have e : acc (mtFull g r) 5 = ((((0 * 256 + zAt (mtFull g r) 1) * 256 + zAt (mtFull g r) 2) * 256 + zAt (mtFull g r) 3) * 256 + zAt (mtFull g r) 4) * 256 + zAt (mtFull g r) 5 := rfl
  unfold mcd
  rw [e, d1, d2, d3, d4, d5, d6, d7]
  refine Prod.ext ?_ ?_
  · show _ = g
    omega
  · show r / 256 * 256 + r % 256 = r
    omega
theorem mrd_iff (zs : List Int) (g r : Int) : mrd zs = some (g, r) ↔ mtBytes g r = some zs := by
  constructor
  · intro h
    unfold mrd at h
    split at h
    · rename_i hc
      cases h
      have := hc.2
      exact this
    · cases h
  · intro h
    have h2 := h
    unfold mtBytes at h2
    split at h2
    · rename_i hok
      cases h2
      have hm := mcd_full hok
      rw [mrd, if_pos ⟨mtFull_len g r, by rw [hm]; exact h⟩, hm]
    · cases h2
theorem tr_at {old new : List Int} (hn : new.length = 512) (n : Int) {i : Nat} (hi : i < 512) : zAt (trB old new n) i = if i < n.toNat then zAt new i else zAt old i := by
  unfold trB zAt
  by_cases h : i < n.toNat
  · rw [if_pos h, List.getElem?_append_left (by rw [List.length_take]; omega), List.getElem?_take, if_pos h]
  · rw [if_neg h, List.getElem?_append_right (by rw [List.length_take]; omega), List.length_take, List.getElem?_drop]
    congr 2
    omega
theorem torn {g a b : Int} (ha : mtOk g a = true) (hb : mtOk (g + 2) b = true) {n : Int} (h : n < 512) : mrd (trB (mtFull g a) (mtFull (g + 2) b) n) = none ∨ mrd (trB (mtFull g a) (mtFull (g + 2) b) n) = some (g, a) := by
  cases hm : mrd (trB (mtFull g a) (mtFull (g + 2) b) n) with
  | none => exact .inl rfl
  | some x =>
    obtain ⟨G, R⟩ := x
    right
    have h2 := (mrd_iff _ G R).1 hm
    unfold mtBytes at h2
    split at h2
    · rename_i hok
      have hz : mtFull G R = trB (mtFull g a) (mtFull (g + 2) b) n := Option.some.inj h2
      obtain ⟨g0, g1, a0, a1⟩ := mtOk_facts ha
      obtain ⟨q0, q1, b0, b1⟩ := mtOk_facts hb
      obtain ⟨G0, G1, R0, R1⟩ := mtOk_facts hok
      have at' : ∀ i, i < 512 → zAt (mtFull G R) i = if i < n.toNat then zAt (mtFull (g + 2) b) i else zAt (mtFull g a) i := fun i hi => by rw [hz]; exact tr_at (mtFull_len _ _) n hi
      obtain ⟨⟨d1, d2, d3, d4, d5⟩, ⟨e1, e2, e3, e4, e5⟩, d6, d7⟩ := digs G R
      obtain ⟨⟨n1, n2, n3, n4, n5⟩, ⟨m1, m2, m3, m4, m5⟩, n6, n7⟩ := digs (g + 2) b
      obtain ⟨⟨o1, o2, o3, o4, o5⟩, ⟨p1, p2, p3, p4, p5⟩, o6, o7⟩ := digs g a
      have t1 := at' 1 (by omega)
      have t2 := at' 2 (by omega)
      have t3 := at' 3 (by omega)
      have t4 := at' 4 (by omega)
      have t5 := at' 5 (by omega)
      have t6 := at' 6 (by omega)
      have t7 := at' 7 (by omega)
      have s1 := at' 507 (by omega)
      have s2 := at' 508 (by omega)
      have s3 := at' 509 (by omega)
      have s4 := at' 510 (by omega)
      have s5 := at' 511 (by omega)
      rw [d1, n1, o1] at t1
      rw [d2, n2, o2] at t2
      rw [d3, n3, o3] at t3
      rw [d4, n4, o4] at t4
      rw [d5, n5, o5] at t5
      rw [d6, n6, o6] at t6
      rw [d7, n7, o7] at t7
      rw [e1, m1, p1] at s1
      rw [e2, m2, p2] at s2
      rw [e3, m3, p3] at s3
      rw [e4, m4, p4] at s4
      rw [e5, m5, p5, if_neg (by omega)] at s5
      clear at' d1 d2 d3 d4 d5 d6 d7 e1 e2 e3 e4 e5 n1 n2 n3 n4 n5 n6 n7 m1 m2 m3 m4 m5 o1 o2 o3 o4 o5 o6 o7 p1 p2 p3 p4 p5 hz h2 hm
      by_cases c1 : n.toNat ≤ 507
      · rw [if_neg (by omega)] at s1 s2 s3 s4
        have hG : G = g := dig_inj (by omega) (by omega) (by omega) (by omega) s1 s2 s3 s4 s5
        by_cases c2 : 6 ≤ n.toNat
        · rw [if_pos (by omega)] at t1 t2 t3 t4 t5
          have : G = g + 2 := dig_inj (by omega) (by omega) (by omega) (by omega) t1 t2 t3 t4 t5
          omega
        · rw [if_neg (by omega)] at t6 t7
          have hR : R = a := by omega
          rw [hG, hR]
      · rw [if_pos (by omega)] at t1 t2 t3 t4 t5
        have : G = g + 2 := dig_inj (by omega) (by omega) (by omega) (by omega) t1 t2 t3 t4 t5
        omega
    · cases h2
open Go.RowKit
set_option maxHeartbeats 4000000 in
set_option maxRecDepth 20000 in
theorem implMetaRead_any (a : Option Addr) (n c : Nat) (zs : List Int) (w : World) (h : Rd w a n c zs) (he : Err w 0) (he2 : Err w 1) :
    Calls Tryz.prog 200 #[.slice a n c] w fun e w' => MrPost (mrd zs) w e w' := by
  have hzl : n = zs.length := h.1
  have HR := hid h
  have HE := hid he
  have HE2 := hid he2
  have K0 := hid (Bk.new w 75 [.int .i64 0, .int .i64 0])
  have B0 := hid (below_new (o := .cells #[.int .i64 0, .int .i64 0] 75) (w := w) (Below.refl _ _))
  clear he he2
  by_cases h512 : n = 512
  · subst h512
    have HZL : Hid (zs.length = 512) := hzl.symm
    obtain ⟨b, off, rfl, hbl, -⟩ := h.2.2.2.2.2 (by omega)
    have hcc := h.2.1
    have hcm := h.2.2.1
    have hc1 : ¬ c = 1 := by omega
    have hc6 : ¬ c = 6 := by omega
    have F1 : Hid (∀ v, Below w.heap.size w v → Calls Tryz.prog 233 #[.slice (some ⟨b, off + 1, none⟩) 5 (c - 1)] v fun e w' => e = .returned (.int .i64 (mcd zs).1) ∧ v = w') := by
      intro v hb
      have := fromHighFirst_any _ 5 (c - 1) _ v ((HR.out.kept hb).cut 1 5 (by omega)) (by omega)
      rw [hiF_acc zs HZL.out 5 (by omega)] at this
      exact this
    have F2 : Hid (∀ v, Below w.heap.size w v → Calls Tryz.prog 233 #[.slice (some ⟨b, off + 6, none⟩) 2 (c - 6)] v fun e w' => e = .returned (.int .i64 (mcd zs).2) ∧ v = w') := by
      intro v hb
      have := fromHighFirst_any _ 2 (c - 6) _ v ((HR.out.kept hb).cut 6 2 (by omega)) (by omega)
      rw [hiF_root zs HZL.out] at this
      exact this
    have HM : Hid (mrd zs = if mtBytes (mcd zs).1 (mcd zs).2 = some zs then some (mcd zs) else none) := by
      show _ = _
      rw [mrd]
      by_cases q : mtBytes (mcd zs).1 (mcd zs).2 = some zs
      · rw [if_pos ⟨HZL.out, q⟩, if_pos q]
      · rw [if_neg (fun h => q h.2), if_neg q]
    have HMP : Hid (mcd zs = ((mcd zs).1, (mcd zs).2)) := rfl
    generalize (mcd zs).1 = mg at *
    generalize (mcd zs).2 = mr at *
    clear hbl hzl h
    go_enter Tryz.func200, Tryz.ntmps200
    go_wp2_with fail
    generalize w.alloc (.cells #[.int .i64 0, .int .i64 0] 75) = U at *
    have FD : Hid (Below w.heap.size w U.drew) := btw B0.out (below_drew _)
    have FA : Hid (∀ o, Below w.heap.size w (U.alloc o).drew) := fun o => btw B0.out ((below_new (Below.refl _ _)).trans ((below_drew _).mono (by simp)))
    have H1 := hid (F1.out _ FD.out)
    have H2 := hid (F2.out _ FD.out)
    have H3 := hid (F1.out _ (FA.out (.cells #[.int .i64 0, .int .i64 0] 75)))
    have H4 := hid (F2.out _ (FA.out (.cells #[.int .i64 0, .int .i64 0] 75)))
    have hw8 : IntKind.i64.wrap 8 = 8 := by simp [IntKind.wrap, IntKind.signed, IntKind.bits]
    go_cut [5] (fun x v => x = .pointer (some ⟨U.heap.size, 0, none⟩) ∧ v = (U.alloc (.cells #[.int .i64 mg, .int .i64 mr] 75)).drew)
    case first =>
      go_region_with (first
        | (go_at_call 233; with_reducible refine H1.out.mono ?_; rintro e w1 ⟨rfl, rfl⟩)
        | (go_at_call 233; with_reducible refine H3.out.mono ?_; rintro e w1 ⟨rfl, rfl⟩)
        | (go_at_call 233; with_reducible refine H4.out.mono ?_; rintro e w1 ⟨rfl, rfl⟩)
        | (go_at_call 233; with_reducible refine H2.out.mono ?_; rintro e w1 ⟨rfl, rfl⟩))
      all_goals (go_wp2_with fail; go_meet)
      all_goals exact ⟨rfl, rfl⟩
    case rest =>
      obtain ⟨rfl, rfl⟩ := hcut
      have BV : Hid (Below w.heap.size w (U.alloc (.cells #[.int .i64 mg, .int .i64 mr] 75)).drew) := FA.out _
      have KV : Hid (Bk (U.alloc (.cells #[.int .i64 mg, .int .i64 mr] 75)).drew U.heap.size 75 [.int .i64 mg, .int .i64 mr]) := (Bk.new U 75 [.int .i64 mg, .int .i64 mr]).below (below_drew _)
      have RV : Hid (Bk (U.alloc (.cells #[.int .i64 mg, .int .i64 mr] 75)).drew w.heap.size 75 [.int .i64 0, .int .i64 0]) := (K0.out.alloc _).below (below_drew _)
      have hne : ¬ w.heap.size = U.heap.size := by have := K0.out.lt; omega
      have hne' : ¬ U.heap.size = w.heap.size := fun e => hne e.symm
      generalize (U.alloc (.cells #[.int .i64 mg, .int .i64 mr] 75)).drew = V at *
      generalize U.heap.size = x at *
      generalize hy : w.heap.size = y at hne hne' RV ⊢
      have HY := hid hy
      clear hy F1 F2 K0 B0 FD FA H1 H2 H3 H4
      have c0 := KV.out.cell (j := 0) rfl
      have c1 := KV.out.cell (j := 1) rfl
      go_wp2_with fail
      refine (implMetaBytes_any mg mr V (HE.out.below BV.out HE.out.lt) (HE2.out.below BV.out HE2.out.lt)).mono ?_
      intro e w2 hput
      have B2 := hid (btw BV.out hput.1)
      have K2 := hid (KV.out.below hput.1)
      have R2 := hid (RV.out.below hput.1)
      have d0 := K2.out.cell (j := 0) rfl
      have d1 := K2.out.cell (j := 1) rfl
      have r0 := R2.out.cell (j := 0) rfl
      have r1 := R2.out.cell (j := 1) rfl
      have rf0 := R2.out.free 0
      have rf1 := R2.out.free 1
      have BF : Hid (∀ p q, Below w.heap.size w ((w2.setCell ⟨y, 0, none⟩ p).setCell ⟨y, 1, none⟩ q)) := by
        intro p q
        exact (B2.out.setCell (p := ⟨y, 0, none⟩) (Nat.le_of_eq HY.out) _).setCell (p := ⟨y, 1, none⟩) (Nat.le_of_eq HY.out) _
      rcases hput.2 with ⟨hn, rfl⟩ | ⟨v, out, hs, rfl, ho⟩
      · have HPR : Hid (mrd zs = none) := by show _ = _; rw [HM.out, if_neg]; rw [hn]; intro h; cases h
        clear hput c0 c1 KV RV BV HM hn
        go_wp2
        refine bodyPost_ret (results_mt2 (x := .int .i64 0) (y := .int .i64 0) rfl _ _ _ rfl rfl (by go_simp) (by go_simp)) rfl ?_
        exact ⟨by first | exact BF.out _ _ | exact B2.out, .inl ⟨HPR.out, rfl⟩⟩
      · have hout : out = mtFull mg mr ∧ mtOk mg mr = true := by
          unfold mtBytes at hs
          split at hs
          · rename_i hk; cases hs; exact ⟨rfl, hk⟩
          · cases hs
        obtain ⟨g0, g1, r0', r1'⟩ := mtOk_facts hout.2
        obtain ⟨a3, c3, rfl, hR3, -⟩ := ho.rd (byte_at (by rw [hout.1]; exact mtFull_byte r0' r1')) (by rw [hout.1, mtFull_len]; omega)
        have R3 := hid hR3
        have HS := hid hs
        clear hput c0 c1 KV RV BV ho hout hR3 hs g0 g1 r0' r1'
        generalize out.length = L at *
        go_wp2_with fail
        refine (bytesEqual_any _ _ _ _ _ _ _ _ _ R3.out (HR.out.kept B2.out)).mono ?_
        rintro e w3 ⟨rfl, rfl⟩
        by_cases hq : out = zs
        · have HPR : Hid (mrd zs = some (mg, mr)) := by show _ = _; rw [HM.out, if_pos (by rw [HS.out, hq]), HMP.out]
          rw [decide_eq_true hq]
          clear hq HM HMP HS R3
          go_wp2
          refine bodyPost_ret (results_mt2 (x := .int .i64 mg) (y := .int .i64 mr) rfl _ _ _ rfl rfl (by go_simp) (by go_simp)) rfl ?_
          exact ⟨BF.out _ _, .inr ⟨_, _, HPR.out, rfl⟩⟩
        · have HPR : Hid (mrd zs = none) := by show _ = _; rw [HM.out, if_neg]; rw [HS.out]; intro h; exact hq (Option.some.inj h)
          rw [decide_eq_false hq]
          clear hq HM HMP HS R3
          go_wp2
          refine bodyPost_ret (results_mt2 (x := .int .i64 0) (y := .int .i64 0) rfl _ _ _ rfl rfl (by go_simp) (by go_simp)) rfl ?_
          exact ⟨by first | exact BF.out _ _ | exact B2.out, .inl ⟨HPR.out, rfl⟩⟩
  · have h512' : ((n : Int) != 512) = true := by simp; omega
    have HPR : Hid (mrd zs = none) := by
      show mrd zs = none
      rw [mrd, if_neg]
      rintro ⟨h, _⟩
      omega
    clear HR K0 HE HE2 h hzl
    go_enter Tryz.func200, Tryz.ntmps200
    go_wp2
    refine bodyPost_ret (results_mt2 (x := .int .i64 0) (y := .int .i64 0) rfl _ _ _ rfl rfl (by go_simp) (by go_simp)) rfl ?_
    refine ⟨?_, .inl ⟨HPR.out, rfl⟩⟩
    exact B0.out
open Go.RowKit
set_option linter.unusedVariables false
def shMeta (d : DK) (t : Nat) : Option (Int × Int) := mrd ((rdV d (t : Int)).getD [])
def stepM (o : Option (Int × Int)) (t : Nat) (b : Int × Int) : Int × Int := match o with
  | none => b
  | some m => if m.1 % 2 = (t : Int) ∧ b.1 < m.1 then m else b
def bestM (d : DK) : Nat → Int × Int
  | 0 => (0, 0)
  | k + 1 => stepM (shMeta d k) k (bestM d k)
theorem mrd_nil : mrd [] = none := by simp [mrd]
theorem mrd_gen {zs : List Int} {g r : Int} (h : mrd zs = some (g, r)) : 1 ≤ g ∧ g ≤ 1099511627775 := by
  have := (mrd_iff zs g r).1 h
  unfold mtBytes at this
  split at this
  · rename_i hh
    simp only [mtOk, Bool.and_eq_true, decide_eq_true_eq] at hh
    exact hh.1
  · cases this
structure Mx5 (w v : World) (sa : Option Addr) (sn sc : Nat) (da : Option Addr) (dn dc : Nat) (b : Int × Int) : Prop where
  bel : Below w.heap.size w v
  k0 : Bk v w.heap.size 25 [.slice sa sn sc, .slice da dn dc]
  k1 : Bk v (w.heap.size + 1) 75 [.int .i64 0, .int .i64 0]
  k2 : Bk v (w.heap.size + 1 + 1) 75 [.int .i64 b.1, .int .i64 b.2]
theorem Mx5.below {w v v' : World} {sa : Option Addr} {sn sc : Nat} {da : Option Addr} {dn dc : Nat} {b : Int × Int} (h : Mx5 w v sa sn sc da dn dc b) (hb : Below v.heap.size v v') : Mx5 w v' sa sn sc da dn dc b := ⟨bt6 h.bel hb, h.k0.below hb, h.k1.below hb, h.k2.below hb⟩
theorem Mx5.set {w v : World} {sa : Option Addr} {sn sc : Nat} {da : Option Addr} {dn dc : Nat} {b : Int × Int} (h : Mx5 w v sa sn sc da dn dc b) (g r : Int) : Mx5 w ((v.setCell ⟨w.heap.size + 1 + 1, 0, none⟩ (.int .i64 g)).setCell ⟨w.heap.size + 1 + 1, 1, none⟩ (.int .i64 r)) sa sn sc da dn dc (g, r) :=
  ⟨(h.bel.setCell (p := ⟨w.heap.size + 1 + 1, 0, none⟩) (by show w.heap.size ≤ w.heap.size + 1 + 1; omega) _).setCell (p := ⟨w.heap.size + 1 + 1, 1, none⟩) (by show w.heap.size ≤ w.heap.size + 1 + 1; omega) _, (h.k0.setOther (by omega) _ _).setOther (by omega) _ _, (h.k1.setOther (by omega) _ _).setOther (by omega) _ _, (h.k2.set 0 _).set 1 _⟩
theorem Mx5.start (w : World) (sa : Option Addr) (sn sc : Nat) (da : Option Addr) (dn dc : Nat) : Mx5 w (((w.alloc (.cells #[.slice sa sn sc, .slice da dn dc] 25)).alloc (.cells #[.int .i64 0, .int .i64 0] 75)).alloc (.cells #[.int .i64 0, .int .i64 0] 75)) sa sn sc da dn dc (0, 0) := by
  refine ⟨below_new (below_new (below_new (Below.refl _ _))), ((Bk.new w 25 [.slice sa sn sc, .slice da dn dc]).alloc _).alloc _, ?_, ?_⟩
  · have := (Bk.new (w.alloc (.cells #[.slice sa sn sc, .slice da dn dc] 25)) 75 [.int .i64 0, .int .i64 0]).alloc (.cells #[.int .i64 0, .int .i64 0] 75)
    simpa using this
  · have := Bk.new ((w.alloc (.cells #[.slice sa sn sc, .slice da dn dc] 25)).alloc (.cells #[.int .i64 0, .int .i64 0] 75)) 75 [.int .i64 0, .int .i64 0]
    simpa using this
theorem below_drew' {B : Nat} (w : World) : Below B w w.drew := Below.drewN' (Below.refl _ _) 1
set_option maxHeartbeats 8000000 in
set_option maxRecDepth 20000 in
theorem specDiskMeta_any (S : Nat → Prop) (sa : Option Addr) (sn sc : Nat) (da : Option Addr) (dn dc : Nat) (d : DK) (w : World) (h : Dk w S sa sn sc da dn dc d) (hsm : smallD d) :
    Calls Tryz.prog 77 #[.agg #[.slice sa sn sc, .slice da dn dc]] w fun e w' => e = .returned (.tuple #[.agg #[.int .i64 (bestM d 2).1, .int .i64 (bestM d 2).2], .bool (decide (0 < (bestM d 2).1))]) ∧ Below w.heap.size w w' := by
  have HH := hid h
  have HSM := hid hsm
  have HBY := hid h.bytes
  have M0 := hid (Mx5.start w sa sn sc da dn dc)
  clear h hsm
  go_enter Tryz.func77, Tryz.ntmps77
  go_wp2_with fail
  go_loopw [5] (fun i wr => ∃ k : Nat, k ≤ 2 ∧ i = .int .i64 k ∧ Hid (Mx5 w wr sa sn sc da dn dc (bestM d k))) (fun i _ => 2 - (intOf i).toNat)
  case atStart => exact ⟨0, by omega, rfl, M0.out⟩
  case round =>
    obtain ⟨k, hk, rfl, MM⟩ := hrel
    clear M0
    by_cases hlt : k < 2
    · have hlt' : (k : Int) < 2 := by omega
      have d0 := MM.out.k0.cell (j := 0) rfl
      have d1 := MM.out.k0.cell (j := 1) rfl
      go_wp2_with fail
      refine (specDiskRead_any S sa sn sc da dn dc d (k : Int) wr (HH.out.below MM.out.bel) HSM.out).mono ?_
      rintro e w2 ⟨a2, n2, c2, rfl, hO, hb⟩
      have M2 := hid (MM.out.below hb)
      have HRD := hid (ob_rd hO (rdV_facts HBY.out (k : Int)).1 (by have := (rdV_facts HBY.out (k : Int)).2; omega)).1
      have HST : Hid (bestM d (k + 1) = stepM (mrd ((rdV d (k : Int)).getD [])) k (bestM d k)) := rfl
      have HNO : Hid ((rdV d (k : Int)).isSome = false → mrd ((rdV d (k : Int)).getD []) = none) := fun e => by
        cases e2 : rdV d (k : Int) with
        | none => exact mrd_nil
        | some z => rw [e2] at e; cases e
      clear hO hb d0 d1 MM
      generalize (rdV d (k : Int)).isSome = Z at *
      generalize (rdV d (k : Int)).getD [] = zs at *
      go_wp2_with fail
      refine (specMetaRead_any a2 n2 c2 zs _ HRD.out).mono ?_
      rintro e w3 ⟨hb, hor⟩
      have M3 := hid (M2.out.below hb)
      clear hb M2 HRD
      rcases hor with ⟨hn, rfl⟩ | ⟨g, r, hs, rfl⟩
      · have M4 := hid (M3.out.below (below_new (o := .cells #[.int .i64 0, .int .i64 0] 75) (w := w3) (Below.refl _ _)))
        have HS2 : Hid (bestM d (k + 1) = bestM d k) := by show _ = _; rw [HST.out, hn]; rfl
        clear hn M3 HST HNO
        cases Z with
        | true =>
          go_wp2
          go_roundw
          case rel => exact ⟨k + 1, by omega, by go_num, by rw [HS2.out]; exact M4.out⟩
          case measure => simp [intOf]; omega
        | false =>
          go_wp2
          go_roundw
          case rel => exact ⟨k + 1, by omega, by go_num, by rw [HS2.out]; exact M4.out⟩
          case measure => simp [intOf]; omega
      · have hZ : Z = true := by
          cases Z with
          | true => rfl
          | false => rw [HNO.out rfl] at hs; cases hs
        subst hZ
        have hg := mrd_gen hs
        have hmod : g.tmod 2 = g % 2 := Int.tmod_eq_emod_of_nonneg (by omega)
        have M4 := hid (M3.out.below (below_new (o := .cells #[.int .i64 g, .int .i64 r] 75) (w := w3) (Below.refl _ _)))
        have K4 := hid (Bk.new w3 75 [.int .i64 g, .int .i64 r])
        rw [hs] at HST
        have HS2 : Hid (bestM d (k + 1) = if g % 2 = (k : Int) ∧ (bestM d k).1 < g then (g, r) else bestM d k) := HST
        have S4 : Hid (w.heap.size + 1 + 1 < w3.heap.size) := M3.out.k2.lt
        clear hs HST HNO
        generalize g % 2 = p at *
        by_cases e1 : p = (k : Int)
        · have e1' : (p == (k : Int)) = true := by simp [e1]
          have b0 := M3.out.k2.cell (j := 0) rfl
          have b1 := M3.out.k2.cell (j := 1) rfl
          have f0 := M3.out.k2.free 0
          have f1 := M3.out.k2.free 1
          by_cases e2 : (bestM d k).1 < g
          · have HS3 : Hid (bestM d (k + 1) = (g, r)) := by show _ = _; rw [HS2.out, if_pos ⟨e1, e2⟩]
            have M5 := hid ((M3.out.set g r).below (below_new (o := .cells #[.int .i64 g, .int .i64 r] 75) (Below.refl _ _)))
            clear HS2 e1 M3 M4 K4
            generalize (bestM d k).1 = q1 at *
            generalize (bestM d k).2 = q2 at *
            have s4 := S4.out
            go_wp2
            go_roundw
            case rel => exact ⟨k + 1, by omega, by go_num, by rw [HS3.out]; exact M5.out⟩
            case measure => simp [intOf]; omega
          · have HS3 : Hid (bestM d (k + 1) = bestM d k) := by show _ = _; rw [HS2.out, if_neg (fun h => e2 h.2)]
            clear HS2 e1 M3 K4
            have HM4 : Hid (Mx5 w (w3.alloc (.cells #[.int .i64 g, .int .i64 r] 75)) sa sn sc da dn dc (bestM d (k + 1))) := by rw [HS3.out]; exact M4.out
            clear M4 HS3
            generalize (bestM d k).1 = q1 at *
            have s4 := S4.out
            go_wp2
            go_roundw
            case rel => exact ⟨k + 1, by omega, by go_num, HM4.out⟩
            case measure => simp [intOf]; omega
        · have e1' : (p == (k : Int)) = false := by simp [e1]
          have HS3 : Hid (bestM d (k + 1) = bestM d k) := by show _ = _; rw [HS2.out, if_neg (fun h => e1 h.1)]
          have HM4 : Hid (Mx5 w (w3.alloc (.cells #[.int .i64 g, .int .i64 r] 75)) sa sn sc da dn dc (bestM d (k + 1))) := by rw [HS3.out]; exact M4.out
          clear HS2 HS3 M4 M3 K4
          go_wp2
          go_roundw
          case rel => exact ⟨k + 1, by omega, by go_num, HM4.out⟩
          case measure => simp [intOf]; omega
    · have hk2 : k = 2 := by omega
      subst hk2
      have b0 := MM.out.k2.cell (j := 0) rfl
      have b1 := MM.out.k2.cell (j := 1) rfl
      have r0 := MM.out.k1.cell (j := 0) rfl
      have r1 := MM.out.k1.cell (j := 1) rfl
      have f0 := MM.out.k1.free 0
      have f1 := MM.out.k1.free 1
      generalize hq1 : (bestM d 2).1 = q1 at *
      generalize hq2 : (bestM d 2).2 = q2 at *
      have HB := hid MM.out.bel
      have HQ1 := hid hq1
      have HQ2 := hid hq2
      clear MM hq1 hq2
      go_wp2_with fail
      go_region_held3 (fun v => v.cell? ⟨w.heap.size + 1 + 1, 0, none⟩ = some (.int .i64 q1) ∧ v.cell? ⟨w.heap.size + 1 + 1, 1, none⟩ = some (.int .i64 q2))
        (first | assumption | (refine ⟨?_, ?_⟩ <;> go_simp))
        (first | fail)
      all_goals go_wp2
      all_goals try simp only [Exit.inBlock, Exit.then]
      all_goals refine bodyPost_ret (v := .tuple #[.agg #[.int .i64 q1, .int .i64 q2], .bool (decide (0 < q1))]) ?_ rfl ?_
      all_goals first
        | exact results_mt2 rfl _ _ _ rfl rfl (by go_simp) (by go_simp)
        | exact ⟨by rw [HQ1.out, HQ2.out], ((HB.out.setCell (p := ⟨w.heap.size + 1, 0, none⟩) (Nat.le_succ _) _).setCell (p := ⟨w.heap.size + 1, 1, none⟩) (Nat.le_succ _) _).trans (below_drew' _)⟩
theorem metaPlace_any (g : Int) (w : World) (h : 0 ≤ g) : Calls Tryz.prog 88 #[.int .i64 g] w fun e w' => e = .returned (.int .i64 (g % 2)) ∧ w' = w := by
  have hmod : g.tmod 2 = g % 2 := Int.tmod_eq_emod_of_nonneg h
  have hr : 0 ≤ g % 2 ∧ g % 2 < 2 := by omega
  generalize g % 2 = p at *
  go_enter Tryz.func88, Tryz.ntmps88
  go_wp2
  go_ret
  exact ⟨by simp, rfl⟩
set_option maxHeartbeats 8000000 in
set_option maxRecDepth 20000 in
theorem implDiskMeta_any (S : Nat → Prop) (sa : Option Addr) (sn sc : Nat) (da : Option Addr) (dn dc : Nat) (d : DK) (w : World) (h : Dk w S sa sn sc da dn dc d) (hsm : smallD d) (he : Err w 0) (he2 : Err w 1) :
    Calls Tryz.prog 144 #[.agg #[.slice sa sn sc, .slice da dn dc]] w fun e w' => e = .returned (.tuple #[.agg #[.int .i64 (bestM d 2).1, .int .i64 (bestM d 2).2], .bool (decide (0 < (bestM d 2).1))]) ∧ Below w.heap.size w w' := by
  have HH := hid h
  have HSM := hid hsm
  have HBY := hid h.bytes
  have M0 := hid (Mx5.start w sa sn sc da dn dc)
  have HE := hid he
  have HE2 := hid he2
  clear h hsm he he2
  go_enter Tryz.func144, Tryz.ntmps144
  go_wp2_with fail
  go_loopw [10] (fun i wr => ∃ k : Nat, k ≤ 2 ∧ i = .int .i64 k ∧ Hid (Mx5 w wr sa sn sc da dn dc (bestM d k))) (fun i _ => 2 - (intOf i).toNat)
  case atStart => exact ⟨0, by omega, rfl, M0.out⟩
  case round =>
    obtain ⟨k, hk, rfl, MM⟩ := hrel
    clear M0
    by_cases hlt : k < 2
    · have hlt' : (k : Int) < 2 := by omega
      have d0 := MM.out.k0.cell (j := 0) rfl
      have d1 := MM.out.k0.cell (j := 1) rfl
      go_wp2_with fail
      refine (implDiskRead_any S sa sn sc da dn dc d (k : Int) wr (HH.out.below MM.out.bel) HSM.out (HE.out.below MM.out.bel HE.out.lt) (HE2.out.below MM.out.bel HE2.out.lt)).mono ?_
      rintro e w2 ⟨a2, n2, c2, rfl, hO, hb⟩
      have M2 := hid (MM.out.below hb)
      have HRD := hid (ob_rd hO (rdV_facts HBY.out (k : Int)).1 (by have := (rdV_facts HBY.out (k : Int)).2; omega)).1
      have HST : Hid (bestM d (k + 1) = stepM (mrd ((rdV d (k : Int)).getD [])) k (bestM d k)) := rfl
      have HNO : Hid ((rdV d (k : Int)).isSome = false → mrd ((rdV d (k : Int)).getD []) = none) := fun e => by
        cases e2 : rdV d (k : Int) with
        | none => exact mrd_nil
        | some z => rw [e2] at e; cases e
      clear hO hb d0 d1 MM
      generalize (rdV d (k : Int)).isSome = Z at *
      generalize (rdV d (k : Int)).getD [] = zs at *
      go_wp2_with fail
      refine (implMetaRead_any a2 n2 c2 zs _ HRD.out (HE.out.below M2.out.bel HE.out.lt) (HE2.out.below M2.out.bel HE2.out.lt)).mono ?_
      rintro e w3 ⟨hb, hor⟩
      have M3 := hid (M2.out.below hb)
      clear hb M2 HRD
      rcases hor with ⟨hn, rfl⟩ | ⟨g, r, hs, rfl⟩
      · have M4 := hid (M3.out.below (below_new (o := .cells #[.int .i64 0, .int .i64 0] 75) (w := w3) (Below.refl _ _)))
        have HS2 : Hid (bestM d (k + 1) = bestM d k) := by show _ = _; rw [HST.out, hn]; rfl
        clear hn M3 HST HNO
        cases Z with
        | true =>
          go_wp2
          go_roundw
          case rel => exact ⟨k + 1, by omega, by go_num, by rw [HS2.out]; exact M4.out⟩
          case measure => simp [intOf]; omega
        | false =>
          go_wp2
          go_roundw
          case rel => exact ⟨k + 1, by omega, by go_num, by rw [HS2.out]; exact M4.out⟩
          case measure => simp [intOf]; omega
      · have hZ : Z = true := by
          cases Z with
          | true => rfl
          | false => rw [HNO.out rfl] at hs; cases hs
        subst hZ
        have hg := mrd_gen hs
        have hmod : g.tmod 2 = g % 2 := Int.tmod_eq_emod_of_nonneg (by omega)
        have M4 := hid (M3.out.below (below_new (o := .cells #[.int .i64 g, .int .i64 r] 75) (w := w3) (Below.refl _ _)))
        have K4 := hid (Bk.new w3 75 [.int .i64 g, .int .i64 r])
        rw [hs] at HST
        have HS2 : Hid (bestM d (k + 1) = if g % 2 = (k : Int) ∧ (bestM d k).1 < g then (g, r) else bestM d k) := HST
        have S4 : Hid (w.heap.size + 1 + 1 < w3.heap.size) := M3.out.k2.lt
        clear hs HST HNO
        have HMP := hid (metaPlace_any g (w3.alloc (.cells #[.int .i64 g, .int .i64 r] 75)) (by omega))
        generalize g % 2 = p at *
        go_wp2_with fail
        refine HMP.out.mono ?_
        rintro e w4' ⟨rfl, rfl⟩
        clear hmod
        by_cases e1 : p = (k : Int)
        · have e1' : (p == (k : Int)) = true := by simp [e1]
          have b0 := M3.out.k2.cell (j := 0) rfl
          have b1 := M3.out.k2.cell (j := 1) rfl
          have f0 := M3.out.k2.free 0
          have f1 := M3.out.k2.free 1
          by_cases e2 : (bestM d k).1 < g
          · have HS3 : Hid (bestM d (k + 1) = (g, r)) := by show _ = _; rw [HS2.out, if_pos ⟨e1, e2⟩]
            have M5 := hid ((M3.out.set g r).below (below_new (o := .cells #[.int .i64 g, .int .i64 r] 75) (Below.refl _ _)))
            clear HS2 e1 M3 M4 K4
            generalize (bestM d k).1 = q1 at *
            generalize (bestM d k).2 = q2 at *
            have s4 := S4.out
            go_wp2
            go_roundw
            case rel => exact ⟨k + 1, by omega, by go_num, by rw [HS3.out]; exact M5.out⟩
            case measure => simp [intOf]; omega
          · have HS3 : Hid (bestM d (k + 1) = bestM d k) := by show _ = _; rw [HS2.out, if_neg (fun h => e2 h.2)]
            clear HS2 e1 M3 K4
            have HM4 : Hid (Mx5 w (w3.alloc (.cells #[.int .i64 g, .int .i64 r] 75)) sa sn sc da dn dc (bestM d (k + 1))) := by rw [HS3.out]; exact M4.out
            clear M4 HS3
            generalize (bestM d k).1 = q1 at *
            have s4 := S4.out
            go_wp2
            go_roundw
            case rel => exact ⟨k + 1, by omega, by go_num, HM4.out⟩
            case measure => simp [intOf]; omega
        · have e1' : (p == (k : Int)) = false := by simp [e1]
          have HS3 : Hid (bestM d (k + 1) = bestM d k) := by show _ = _; rw [HS2.out, if_neg (fun h => e1 h.1)]
          have HM4 : Hid (Mx5 w (w3.alloc (.cells #[.int .i64 g, .int .i64 r] 75)) sa sn sc da dn dc (bestM d (k + 1))) := by rw [HS3.out]; exact M4.out
          clear HS2 HS3 M4 M3 K4
          go_wp2
          go_roundw
          case rel => exact ⟨k + 1, by omega, by go_num, HM4.out⟩
          case measure => simp [intOf]; omega
    · have hk2 : k = 2 := by omega
      subst hk2
      have b0 := MM.out.k2.cell (j := 0) rfl
      have b1 := MM.out.k2.cell (j := 1) rfl
      have r0 := MM.out.k1.cell (j := 0) rfl
      have r1 := MM.out.k1.cell (j := 1) rfl
      have f0 := MM.out.k1.free 0
      have f1 := MM.out.k1.free 1
      generalize hq1 : (bestM d 2).1 = q1 at *
      generalize hq2 : (bestM d 2).2 = q2 at *
      have HB := hid MM.out.bel
      have HQ1 := hid hq1
      have HQ2 := hid hq2
      clear MM hq1 hq2
      go_wp2_with fail
      go_region_held3 (fun v => v.cell? ⟨w.heap.size + 1 + 1, 0, none⟩ = some (.int .i64 q1) ∧ v.cell? ⟨w.heap.size + 1 + 1, 1, none⟩ = some (.int .i64 q2))
        (first | assumption | (refine ⟨?_, ?_⟩ <;> go_simp))
        (first | fail)
      all_goals go_wp2
      all_goals try simp only [Exit.inBlock, Exit.then]
      all_goals refine bodyPost_ret (v := .tuple #[.agg #[.int .i64 q1, .int .i64 q2], .bool (decide (0 < q1))]) ?_ rfl ?_
      all_goals first
        | exact results_mt2 rfl _ _ _ rfl rfl (by go_simp) (by go_simp)
        | exact ⟨by rw [HQ1.out, HQ2.out], ((HB.out.setCell (p := ⟨w.heap.size + 1, 0, none⟩) (Nat.le_succ _) _).setCell (p := ⟨w.heap.size + 1, 1, none⟩) (Nat.le_succ _) _).trans (below_drew' _)⟩
open Go.RowKit
structure BrI (w wr : World) (wb : Nat) (nv q0 q1 q2 : Value) (ts : List T) (nx : Nat) (kv : Value) (A : Nat → Nat) (SS : Nat → Nat → Prop) : Prop where
  wlt : wb < w.heap.size
  walk : Bk wr wb 221 [nv, .int .i64 nx]
  par : Bk wr w.heap.size 97 [q0, q1, q2]
  only : Only (fun b => b = wb) w wr
  br : Bk wr (w.heap.size + 1) 219 [.slice none 0 0, kv]
  row : Ok wr (w.heap.size + 2) kv ts.length A
  sub : ∀ i, i < ts.length → ∀ x, SS i x → w.heap.size + 2 ≤ x ∧ x < wr.heap.size ∧ kv.ownBlock ≠ some x
  dis : ∀ i j, i < ts.length → j < ts.length → i ≠ j → ∀ x, SS i x → ¬ SS j x
  kid : ∀ i, i < ts.length → Limb wr (SS i) (A i) (tAt ts i)
  rdy : ∀ i, i < ts.length → Rdy (tAt ts i)
theorem BrI.read {w wr w1 : World} {wb : Nat} {nv q0 q1 q2 : Value} {ts : List T} {nx n1 : Nat} {kv : Value} {A : Nat → Nat} {SS : Nat → Nat → Prop} (h : BrI w wr wb nv q0 q1 q2 ts nx kv A SS)
    (ho : Only (fun b => b = wb) wr w1) (hb : Bk w1 wb 221 [nv, .int .i64 n1]) : BrI w w1 wb nv q0 q1 q2 ts n1 kv A SS := by
  have hw := h.wlt
  refine ⟨h.wlt, hb, h.par.to ho (by omega), h.only.trans ho, h.br.to ho (by omega), h.row.to ho (fun k e => ?_), fun i hi x hx => ?_, h.dis, fun i hi => (h.kid i hi).to ho (fun x hx => ?_), h.rdy⟩
  · have := (World.ownsRow.lt h.row k e).1; omega
  · have := h.sub i hi x hx; have := ho.size; exact ⟨by omega, by omega, (h.sub i hi x hx).2.2⟩
  · have := h.sub i hi x hx; omega
theorem BrI.keep {w wr w1 : World} {wb : Nat} {nv q0 q1 q2 : Value} {ts : List T} {nx : Nat} {kv : Value} {A : Nat → Nat} {SS : Nat → Nat → Prop} (h : BrI w wr wb nv q0 q1 q2 ts nx kv A SS)
    (hb : Below wr.heap.size wr w1) : BrI w w1 wb nv q0 q1 q2 ts nx kv A SS := h.read (only_of_below hb _) (h.walk.below hb)
theorem BrI.push {w u w2 : World} {wb : Nat} {nv q0 q1 q2 : Value} {ts : List T} {nx : Nat} {kv v' : Value} {A : Nat → Nat} {SS : Nat → Nat → Prop} (h : BrI w u wb nv q0 q1 q2 ts nx kv A SS)
    {P : Nat → Prop} {b : Nat} {t : T} (hl : Limb u P b t) (hP : ∀ x, P x → w.heap.size + 2 ≤ x ∧ x < u.heap.size ∧ kv.ownBlock ≠ some x ∧ ∀ i, i < ts.length → ¬ SS i x) (ht : Rdy t)
    (ho : Ok w2 (w.heap.size + 2) v' (ts.length + 1) (fun i => if i = ts.length then b else A i)) (hg : u.grownBy w2 kv.ownBlock) (ha : v'.ownBlock = kv.ownBlock ∨ v'.ownBlock = some u.heap.size) :
    BrI w (w2.setCell ⟨w.heap.size + 1, 1, none⟩ v') wb nv q0 q1 q2 (ts ++ [t]) nx v' (fun i => if i = ts.length then b else A i) (fun i => if i = ts.length then P else SS i) := by
  have hw := h.wlt
  have hkv := fun k e => (World.ownsRow.lt h.row k e).1
  have hsz : u.heap.size ≤ w2.heap.size := hg.size
  have hbr := h.br.lt
  have hav : ∀ x, v'.ownBlock = some x → w.heap.size + 2 ≤ x := fun x e => (World.ownsRow.lt ho x e).1
  have o1 : Only (fun b => some b = kv.ownBlock) u w2 := only_of_grown hg (fun k e => e.symm)
  have o2 : Only (fun b => b = w.heap.size + 1) w2 (w2.setCell ⟨w.heap.size + 1, 1, none⟩ v') := only_set (R := fun b => b = w.heap.size + 1) rfl _
  have o3 : Only (fun b => some b = kv.ownBlock ∨ b = w.heap.size + 1) u (w2.setCell ⟨w.heap.size + 1, 1, none⟩ v') := (o1.mono (fun _ _ e => .inl e)).then o2 (fun _ _ e => .inr e)
  refine ⟨h.wlt, h.walk.to o3 ?_, h.par.to o3 ?_, ?_, ?_, ?_, ?_, ?_, ?_, ?_⟩
  · rintro (e | e)
    · have := hkv wb e.symm; omega
    · omega
  · rintro (e | e)
    · have := hkv w.heap.size e.symm; omega
    · omega
  · refine h.only.then o3 (fun i hi e => ?_)
    rcases e with e | e
    · have := hkv i e.symm; omega
    · omega
  · have k1 := h.br.to o1 (fun e => by have := hkv _ e.symm; omega)
    exact k1.set 1 v'
  · rw [List.length_append]
    exact ho.to o2 (fun k e => by have := hav k e; omega)
  · intro i hi x hx
    have hz : (w2.setCell ⟨w.heap.size + 1, 1, none⟩ v').heap.size = w2.heap.size := by simp [World.setCell]
    rw [hz]
    by_cases e : i = ts.length
    · subst e
      simp only [if_true] at hx
      obtain ⟨p1, p2, p3, p4⟩ := hP x hx
      refine ⟨p1, by omega, ?_⟩
      rcases ha with ha | ha
      · rw [ha]; exact p3
      · rw [ha]; intro e; cases e; omega
    · simp only [e, if_false] at hx
      simp at hi
      obtain ⟨p1, p2, p3⟩ := h.sub i (by omega) x hx
      refine ⟨p1, by omega, ?_⟩
      rcases ha with ha | ha
      · rw [ha]; exact p3
      · rw [ha]; intro e; cases e; omega
  · intro i j hi hj hij x hx hy
    simp at hi hj
    by_cases e : i = ts.length
    · subst e
      simp only [if_true] at hx
      rw [if_neg (by omega)] at hy
      exact (hP x hx).2.2.2 j (by omega) hy
    · rw [if_neg e] at hx
      by_cases e' : j = ts.length
      · subst e'
        simp only [if_true] at hy
        exact (hP x hy).2.2.2 i (by omega) hx
      · rw [if_neg e'] at hy
        exact h.dis i j (by omega) (by omega) hij x hx hy
  · intro i hi
    rw [tAt_snoc _ _ _ hi]
    by_cases e : i = ts.length
    · subst e
      simp only [if_true]
      exact hl.to o3 (fun x hx => by
        rintro (e | e)
        · exact (hP x hx).2.2.1 e.symm
        · have := (hP x hx).1; omega)
    · simp only [e, if_false]
      simp at hi
      exact (h.kid i (by omega)).to o3 (fun x hx => by
        have := h.sub i (by omega) x hx
        rintro (e | e)
        · exact this.2.2 e.symm
        · omega)
  · intro i hi
    rw [tAt_snoc _ _ _ hi]
    by_cases e : i = ts.length
    · rw [if_pos e]; exact ht
    · rw [if_neg e]; simp at hi; exact h.rdy i (by omega)
theorem BrI.limb {w wr : World} {wb : Nat} {nv q0 q1 q2 : Value} {ts : List T} {nx : Nat} {kv : Value} {A : Nat → Nat} {SS : Nat → Nat → Prop} (h : BrI w wr wb nv q0 q1 q2 ts nx kv A SS) :
    Limb wr (fun y => w.heap.size ≤ y ∧ y < wr.heap.size) (w.heap.size + 1) (.mk [] ts) := by
  have hbr := h.br.lt
  refine .mk _ _ (.slice none 0 0) kv [] ts A SS ⟨by omega, hbr⟩ h.br (World.ownsRow_nil _ _ _ _) (own_mono h.row (Nat.zero_le _)) (fun x hx => by cases hx) (fun x hx => ?_) (fun i hi x hx => ?_) h.dis h.kid
  · have := World.ownsRow.lt h.row x hx
    exact ⟨⟨by omega, this.2⟩, by omega, by simp [Value.ownBlock]⟩
  · have := h.sub i hi x hx
    exact ⟨⟨by omega, this.2.1⟩, by omega, by simp [Value.ownBlock], this.2.2⟩
theorem BrI.first {w : World} {wb : Nat} {nv q0 q1 q2 : Value} {nx : Nat} (hw : Bk w wb 221 [nv, .int .i64 nx]) :
    BrI w ((w.alloc (.cells #[q0, q1, q2] 97)).alloc (.cells #[.slice none 0 0, .slice none 0 0] 219)) wb nv q0 q1 q2 [] nx (.slice none 0 0) (fun _ => 0) (fun _ _ => False) := by
  refine ⟨hw.lt, (hw.alloc _).alloc _, (Bk.new w 97 [q0, q1, q2]).alloc _, only_of_below (below_new (below_new (Below.refl _ _))) _, ?_, World.ownsRow_nil _ _ _ _, fun i hi => by simp at hi, fun i j hi => by simp at hi, fun i hi => by simp at hi, fun i hi => by simp at hi⟩
  have := Bk.new (w.alloc (.cells #[q0, q1, q2] 97)) 219 [.slice none 0 0, .slice none 0 0]
  simpa using this
set_option maxHeartbeats 8000000 in
theorem readBranch_any (ns : List NB) (f : Nat) (ih : ReadC ns f) (S : Nat → Prop) (wb : Nat) (an : Option Addr) (nn cn : Nat) (ap ax ai : Option Addr) (np cp nk cx ni ci : Nat) (x : NB) (nx : Nat) (w : World)
    (hW : Bk w wb 221 [.slice an nn cn, .int .i64 nx]) (hN : Nr w S (.slice an nn cn) ns) (hwb : ¬ S wb) (hlen : ns.length < 400) (hnx : nx ≤ ns.length) (hf : ns.length ≤ nx + f)
    (hP : Pr w S (.slice ap np cp) x.ps) (hS : Sr w S (.slice ax nk cx) x.keys) (hI : Ir w S (.slice ai ni ci) x.kids) :
    Calls Tryz.prog 210 #[.pointer (some ⟨wb, 0, none⟩), .agg #[.slice ap np cp, .slice ax nk cx, .slice ai ni ci]] w fun e w' => ReadPost (brT ns f x nx) w wb (.slice an nn cn) e w' ∧ Only (fun b => b = wb) w w' := by
  have HIH := hid ih
  have HW := hid hW
  have HN := hid hN
  have HWB := hid hwb
  have HLEN := hid hlen
  have HNX := hid hnx
  have HF := hid hf
  have HS := hid hS
  have HI := hid hI
  have lp := hid (Rw.len hP).1
  have lk := hid (Rw.len hS).1
  have li := hid (Rw.len hI).1
  have b1 := (Rw.len hP).2.1
  have b2 := (Rw.len hP).2.2
  have b3 := (Rw.len hS).2.1
  have b4 := (Rw.len hS).2.2
  have b5 := (Rw.len hI).2.1
  have b6 := (Rw.len hI).2.2
  clear ih hW hN hwb hlen hnx hf hP hS hI
  have HB0 := hid (below_new (o := .cells #[.slice ap np cp, .slice ax nk cx, .slice ai ni ci] 97) (w := w) (Below.refl _ _))
  have KP := hid (Bk.new w 97 [.slice ap np cp, .slice ax nk cx, .slice ai ni ci])
  have LB : Hid (brOk x = !(decide (ni < 2) || decide (4 < ni) || !decide ((nk : Int) = (ni : Int) - 1) || !decide (np = 0))) := by
    show _ = _
    rw [lp.out, lk.out, li.out]; rfl
  by_cases a1 : ni < 2
  · have HR : Hid (brT ns f x nx = none) := by show _ = _; rw [brT, if_neg]; rw [LB.out]; simp [a1]
    have e1 : (ni : Int) < 2 := by omega
    clear LB a1
    go_enter Tryz.func210, Tryz.ntmps210
    go_wp2
    go_ret
    exact ⟨by rw [HR.out]; rfl, only_of_below HB0.out _⟩
  · have e1 : ¬ (ni : Int) < 2 := by omega
    by_cases a2 : 4 < ni
    · have HR : Hid (brT ns f x nx = none) := by show _ = _; rw [brT, if_neg]; rw [LB.out]; simp [a2]
      have e2 : (4 : Int) < (ni : Int) := by omega
      clear LB a1 a2
      go_enter Tryz.func210, Tryz.ntmps210
      go_wp2
      go_ret
      exact ⟨by rw [HR.out]; rfl, only_of_below HB0.out _⟩
    · have e2 : ¬ (4 : Int) < (ni : Int) := by omega
      by_cases a3 : (nk : Int) = (ni : Int) - 1
      · have e3 : ((nk : Int) != (ni : Int) - 1) = false := by simp [a3]
        by_cases a4 : np = 0
        · have e4 : ((np : Int) != 0) = false := by simp [a4]
          have HOK : Hid (brOk x = true) := by show _ = _; rw [LB.out]; simp [a1, a2, a3, a4]
          have HNK := hid a3
          have HIN : Hid (ni ≤ 4) := by show _ ≤ _; omega
          clear LB a3 a4
          go_enter Tryz.func210, Tryz.ntmps210
          have HI0 := hid (BrI.first (q0 := .slice ap np cp) (q1 := .slice ax nk cx) (q2 := .slice ai ni ci) HW.out)
          go_wp2_with fail
          go_loopw [38] (fun i wr => ∃ (ts : List T) (nx' : Nat) (kv : Value) (A : Nat → Nat) (SS : Nat → Nat → Prop), i = .int .i64 (ts.length : Int) ∧ Hid (ts.length ≤ ni) ∧ Hid (BrI w wr wb (.slice an nn cn) (.slice ap np cp) (.slice ax nk cx) (.slice ai ni ci) ts nx' kv A SS) ∧ Hid (nx ≤ nx' ∧ nx' ≤ ns.length) ∧ Hid (rdIL (rdI ns f) x.keys ts (x.kids.drop ts.length) nx' = rdIL (rdI ns f) x.keys [] x.kids nx)) (fun i _ => ni - (intOf i).toNat)
          case atStart => exact ⟨[], nx, _, _, _, rfl, Nat.zero_le _, HI0.out, ⟨Nat.le_refl _, HNX.out⟩, rfl⟩
          case round =>
            obtain ⟨ts, nx', kv, A, SS, rfl, HTL, HBI, HNB, HRD⟩ := hrel
            generalize hk : ts.length = k at *
            have HKL := hid hk
            clear hk
            have HNr := hid (HN.out.to HBI.out.only (fun b hb _ e => HWB.out (e ▸ hb)))
            have HIr := hid (HI.out.to HBI.out.only (fun b hb _ e => HWB.out (e ▸ hb)))
            have HSr := hid (HS.out.to HBI.out.only (fun b hb _ e => HWB.out (e ▸ hb)))
            have p1 := HBI.out.par.cell (j := 1) rfl
            by_cases hlt : k < ni
            · have hlt' : (k : Int) < (ni : Int) := by omega
              obtain ⟨bi, offi, rfl, _, _, hci⟩ := HIr.out.at (by omega)
              have hck := hci k hlt
              have HKD : Hid (x.kids.drop k = iAt x.kids k :: x.kids.drop (k + 1)) := by
                show _ = _
                have hl : k < x.kids.length := by rw [← li.out]; exact hlt
                rw [List.drop_eq_getElem_cons hl]
                simp [iAt, hl]
              clear hci
              generalize hpl : iAt x.kids k = pl at hck HKD
              clear hpl
              go_wp2_with fail
              refine (HIH.out S wb an nn cn pl nx' wr HBI.out.walk HNr.out HWB.out HLEN.out HNB.out.2 (by have := HF.out; have := HNB.out.1; omega)).mono ?_
              rintro e w1 ⟨hpost, ho1⟩
              cases hr : rdI ns f pl nx' with
              | none =>
                rw [hr] at hpost
                have he : e = .returned (.pointer none) := hpost
                subst he
                have HR : Hid (brT ns f x nx = none) := by
                  show _ = _
                  have h1 := HRD.out
                  rw [HKD.out, rdIL, hr] at h1
                  rw [brT, if_pos HOK.out, ← h1]
                have HO1 := hid (HBI.out.only.trans ho1)
                clear hpost ho1 hr
                go_wp2
                go_ret
                exact ⟨by rw [HR.out]; rfl, HO1.out⟩
              | some tn =>
                obtain ⟨t, n1⟩ := tn
                rw [hr] at hpost
                obtain ⟨b, he, hL, hB⟩ := hpost
                subst he
                have HRI := hid (rdI_rdy hr (by have := HLEN.out; omega))
                have HB1 := hid (HBI.out.read ho1 hB)
                have HL := hid hL
                have HPP : Hid (∀ y, (wr.heap.size ≤ y ∧ y < w1.heap.size) → w.heap.size + 2 ≤ y ∧ y < w1.heap.size ∧ kv.ownBlock ≠ some y ∧ ∀ i, i < ts.length → ¬ SS i y) := by
                  rintro y ⟨h1, h2⟩
                  have h3 := HBI.out.br.lt
                  refine ⟨by omega, h2, fun e => ?_, fun i hi hs => ?_⟩
                  · have := (World.ownsRow.lt HBI.out.row y e).2; omega
                  · have := (HBI.out.sub i hi y hs).2.1; omega
                have HRD1 : Hid (rdIL (rdI ns f) x.keys [] x.kids nx = if 0 < ts.length ∧ (t.least ≠ sAt x.keys (ts.length - 1) ∨ t.lv ≠ (tAt ts 0).lv) then none else rdIL (rdI ns f) x.keys (ts ++ [t]) (x.kids.drop (k + 1)) n1) := by
                  show _ = _
                  have h1 := HRD.out
                  rw [HKD.out, rdIL, hr] at h1
                  rw [← h1]
                  rfl
                have p1' := HB1.out.par.cell (j := 1) rfl
                have HSr1 := hid (HS.out.to HB1.out.only (fun b hb _ e => HWB.out (e ▸ hb)))
                clear hL hB hr ho1 HBI HRD HKD p1
                obtain ⟨ak, ck, hkv⟩ := HB1.out.row.shape
                rw [HKL.out] at hkv
                subst hkv
                cases k with
                | zero =>
                  have HTS : Hid (ts = []) := List.eq_nil_of_length_eq_zero HKL.out
                  have HRD2 : Hid (rdIL (rdI ns f) x.keys (ts ++ [t]) (x.kids.drop (0 + 1)) n1 = rdIL (rdI ns f) x.keys [] x.kids nx) := by
                    show _ = _
                    rw [HRD1.out, if_neg]
                    rw [HKL.out]; omega
                  clear HRD1
                  have c1 := HB1.out.br.cell (j := 1) rfl
                  have f1 := HB1.out.br.free 1
                  go_wp2_with fail
                  go_quiet (fail)
                  have HB2 := hid (HB1.out.keep (Below.drewN' (Below.refl _ _) nq))
                  have HL2 := hid (HL.out.kept (Below.drewN' (Below.refl _ _) nq))
                  have HOK2 : Hid (Ok (w1.drewN nq) (w.heap.size + 2) (.slice ak (0) ck) (0) A) := by have := HB2.out.row; rw [HKL.out] at this; exact this
                  have HB3 := hid (HB2.out.keep (below_new (o := .cells #[.pointer (some ⟨b, 0, none⟩)] 166) (Below.refl _ _)))
                  have HL3 := hid (HL2.out.kept (below_new (o := .cells #[.pointer (some ⟨b, 0, none⟩)] 166) (Below.refl _ _)))
                  have HSZ : Hid (w.heap.size + 2 ≤ w1.heap.size) := by have := HB1.out.br.lt; show _ ≤ _; omega
                  go_wp2_with (at_builtin; refine wpList_append_ptr rfl _ _ rfl (w.heap.size + 2) _ (0) A rfl (HOK2.out.kept (below_new (o := .cells #[.pointer (some ⟨b, 0, none⟩)] 166) (Below.refl _ _))) w1.heap.size b rfl ?qc ?qb ?qd ?_)
                  case qc => exact (Bk.new (w1.drewN nq) 166 [.pointer (some ⟨b, 0, none⟩)]).cell (j := 0) rfl
                  case qb => have := HIN.out; omega
                  case qd => have := HSZ.out; simp; omega
                  intro v2 w2 hO2 hg2 ha2
                  obtain ⟨a2, cc2, hv2⟩ := hO2.shape
                  subst hv2
                  have HB4 := hid (HB3.out.push (P := fun y => wr.heap.size ≤ y ∧ y < w1.heap.size) HL3.out (fun y hy => ⟨(HPP.out y hy).1, by have := (HPP.out y hy).2.1; simp; omega, (HPP.out y hy).2.2⟩) HRI.out.1 (by rw [HKL.out]; exact hO2) hg2 (by simpa using ha2))
                  have K2 := HB3.out.br.to (only_of_grown (R := fun y => w.heap.size + 2 ≤ y) hg2 (fun y e => (World.ownsRow.lt HB3.out.row y e).1)) (by omega)
                  have c2 := K2.cell (j := 1) rfl
                  have f2 := K2.free 1
                  have HRD3 : Hid (rdIL (rdI ns f) x.keys (ts ++ [t]) (x.kids.drop (ts ++ [t]).length) n1 = rdIL (rdI ns f) x.keys [] x.kids nx) := by
                    show _ = _
                    rw [List.length_append, HKL.out]
                    exact HRD2.out
                  have HTL2 : Hid ((ts ++ [t]).length = 0 + 1) := by show _ = _; rw [List.length_append, HKL.out]; rfl
                  clear K2 hO2 hg2 ha2 HB3 HL3 HOK2 HRD2
                  go_wp2
                  go_roundw
                  case rel => exact ⟨ts ++ [t], n1, _, _, _, by rw [HTL2.out]; go_num, by show _ ≤ _; rw [HTL2.out]; omega, HB4.out, ⟨by have := HNB.out.1; have := HRI.out.2.2; omega, HRI.out.2.1⟩, HRD3.out⟩
                  case measure => simp [intOf]; omega
                | succ k' =>
                  have hk1 : (0 : Int) < (k' : Int) + 1 := by omega
                  obtain ⟨bs, offs, hax, _, _, hcs⟩ := HSr1.out.at (by have := HNK.out; omega)
                  subst hax
                  have hks := hcs k' (by have := HNK.out; omega)
                  have hkk : (k' : Int) < (nk : Int) := by have := HNK.out; omega
                  clear hcs
                  obtain ⟨g0, og, hag, _, _, hcg⟩ := Rw.at (rw_own (S := fun _ => True) (by have := HB1.out.row; rw [HKL.out] at this; exact this) (fun _ _ _ _ => trivial)) (by omega)
                  subst hag
                  have hg0 := hcg 0 _ (ptrs_at A _ 0 (by omega))
                  simp only [ptr, Nat.add_zero] at hg0
                  clear hcg
                  have HT0 := hid (HB1.out.rdy 0 (by rw [HKL.out]; omega))
                  have HL0 := hid (HB1.out.kid 0 (by rw [HKL.out]; omega))
                  have CL : ∀ n, Calls Tryz.prog 230 #[.pointer (some ⟨b, 0, none⟩)] (w1.drewN n) fun e w' => e = .returned (.string t.least) ∧ ∃ m, w' = (w1.drewN n).drewN m := fun n => least_any _ b t _ (HL.out.kept (Below.drewN' (Below.refl _ _) n)) HRI.out.1.ne
                  have CD : ∀ n, Calls Tryz.prog 238 #[.pointer (some ⟨b, 0, none⟩)] (w1.drewN n) fun e w' => e = .returned (.int .i64 (t.dpt : Int)) ∧ ∃ m, w' = (w1.drewN n).drewN m := fun n => depth_any _ b t _ (HL.out.kept (Below.drewN' (Below.refl _ _) n)) HRI.out.1.few HRI.out.1.lv
                  have CD0 : ∀ n, Calls Tryz.prog 238 #[.pointer (some ⟨A 0, 0, none⟩)] (w1.drewN n) fun e w' => e = .returned (.int .i64 ((tAt ts 0).dpt : Int)) ∧ ∃ m, w' = (w1.drewN n).drewN m := fun n => depth_any _ (A 0) (tAt ts 0) _ (HL0.out.kept (Below.drewN' (Below.refl _ _) n)) HT0.out.few HT0.out.lv
                  have HDD : Hid (t.dpt = t.lv ∧ (tAt ts 0).dpt = (tAt ts 0).lv) := ⟨by rw [T.dpt, HRI.out.1.bare]; rfl, by rw [T.dpt, HT0.out.bare]; rfl⟩
                  by_cases hle : t.least = sAt x.keys k'
                  · by_cases hd : t.dpt = (tAt ts 0).dpt
                    · have HRD2 : Hid (rdIL (rdI ns f) x.keys (ts ++ [t]) (x.kids.drop (k' + 1 + 1)) n1 = rdIL (rdI ns f) x.keys [] x.kids nx) := by
                        show _ = _
                        rw [HRD1.out, if_neg]
                        rw [HKL.out]
                        rintro ⟨_, h | h⟩
                        · exact h hle
                        · have := HDD.out; omega
                      rw [hle] at CL
                      rw [hd] at CD
                      have hdd : (((tAt ts 0).dpt : Int) != ((tAt ts 0).dpt : Int)) = false := by simp
                      clear HRD1 hle hd
                      generalize sAt x.keys k' = ky at *
                      generalize (tAt ts 0).dpt = dd at *
                      have c1 := HB1.out.br.cell (j := 1) rfl
                      have f1 := HB1.out.br.free 1
                      go_wp2_with fail
                      go_quiet (first | (go_at_call 230; exact Calls.quiet_of (CL _)) | (go_at_call_of 238 (Value.pointer (some ⟨A 0, 0, none⟩)); exact Calls.quiet_of (CD0 _)) | (go_at_call_of 238 (Value.pointer (some ⟨b, 0, none⟩)); exact Calls.quiet_of (CD _)) | fail)
                      have HB2 := hid (HB1.out.keep (Below.drewN' (Below.refl _ _) nq))
                      have HL2 := hid (HL.out.kept (Below.drewN' (Below.refl _ _) nq))
                      have HOK2 : Hid (Ok (w1.drewN nq) (w.heap.size + 2) (.slice (some ⟨g0, og, none⟩) (k' + 1) ck) (k' + 1) A) := by have := HB2.out.row; rw [HKL.out] at this; exact this
                      have HB3 := hid (HB2.out.keep (below_new (o := .cells #[.pointer (some ⟨b, 0, none⟩)] 166) (Below.refl _ _)))
                      have HL3 := hid (HL2.out.kept (below_new (o := .cells #[.pointer (some ⟨b, 0, none⟩)] 166) (Below.refl _ _)))
                      have HSZ : Hid (w.heap.size + 2 ≤ w1.heap.size) := by have := HB1.out.br.lt; show _ ≤ _; omega
                      go_wp2_with (at_builtin; refine wpList_append_ptr rfl _ _ rfl (w.heap.size + 2) _ (k' + 1) A rfl (HOK2.out.kept (below_new (o := .cells #[.pointer (some ⟨b, 0, none⟩)] 166) (Below.refl _ _))) w1.heap.size b rfl ?qc ?qb ?qd ?_)
                      case qc => exact (Bk.new (w1.drewN nq) 166 [.pointer (some ⟨b, 0, none⟩)]).cell (j := 0) rfl
                      case qb => have := HIN.out; omega
                      case qd => have := HSZ.out; simp; omega
                      intro v2 w2 hO2 hg2 ha2
                      obtain ⟨a2, cc2, hv2⟩ := hO2.shape
                      subst hv2
                      have HB4 := hid (HB3.out.push (P := fun y => wr.heap.size ≤ y ∧ y < w1.heap.size) HL3.out (fun y hy => ⟨(HPP.out y hy).1, by have := (HPP.out y hy).2.1; simp; omega, (HPP.out y hy).2.2⟩) HRI.out.1 (by rw [HKL.out]; exact hO2) hg2 (by simpa using ha2))
                      have K2 := HB3.out.br.to (only_of_grown (R := fun y => w.heap.size + 2 ≤ y) hg2 (fun y e => (World.ownsRow.lt HB3.out.row y e).1)) (by omega)
                      have c2 := K2.cell (j := 1) rfl
                      have f2 := K2.free 1
                      have HRD3 : Hid (rdIL (rdI ns f) x.keys (ts ++ [t]) (x.kids.drop (ts ++ [t]).length) n1 = rdIL (rdI ns f) x.keys [] x.kids nx) := by
                        show _ = _
                        rw [List.length_append, HKL.out]
                        exact HRD2.out
                      have HTL2 : Hid ((ts ++ [t]).length = k' + 1 + 1) := by show _ = _; rw [List.length_append, HKL.out]; rfl
                      clear K2 hO2 hg2 ha2 HB3 HL3 HOK2 HRD2
                      go_wp2
                      go_roundw
                      case rel => exact ⟨ts ++ [t], n1, _, _, _, by rw [HTL2.out]; go_num, by show _ ≤ _; rw [HTL2.out]; omega, HB4.out, ⟨by have := HNB.out.1; have := HRI.out.2.2; omega, HRI.out.2.1⟩, HRD3.out⟩
                      case measure => simp [intOf]; omega
                    · have HR : Hid (brT ns f x nx = none) := by
                        show _ = _
                        rw [brT, if_pos HOK.out, HRD1.out, if_pos]
                        exact ⟨by rw [HKL.out]; omega, .inr (by have := HDD.out; omega)⟩
                      rw [hle] at CL
                      have hdd : ((t.dpt : Int) != ((tAt ts 0).dpt : Int)) = true := by simp; omega
                      clear HRD1 hle hd HDD
                      generalize sAt x.keys k' = ky at *
                      generalize (tAt ts 0).dpt = dd at *
                      generalize t.dpt = dt at *
                      have c1 := HB1.out.br.cell (j := 1) rfl
                      have HO1 := hid HB1.out.only
                      go_wp2_with fail
                      go_quiet (first | (go_at_call 230; exact Calls.quiet_of (CL _)) | (go_at_call_of 238 (Value.pointer (some ⟨A 0, 0, none⟩)); exact Calls.quiet_of (CD0 _)) | (go_at_call_of 238 (Value.pointer (some ⟨b, 0, none⟩)); exact Calls.quiet_of (CD _)) | fail)
                      go_wp2
                      go_ret
                      exact ⟨by rw [HR.out]; rfl, HO1.out.trans (only_drew _ _ _)⟩
                  · have HR : Hid (brT ns f x nx = none) := by
                      show _ = _
                      rw [brT, if_pos HOK.out, HRD1.out, if_pos]
                      exact ⟨by rw [HKL.out]; omega, .inl (by rw [HKL.out]; exact hle)⟩
                    have hbe := str_beq hle
                    clear HRD1 hle HDD CD CD0
                    generalize sAt x.keys k' = ky at *
                    generalize t.least = tl at *
                    have c1 := HB1.out.br.cell (j := 1) rfl
                    have HO1 := hid HB1.out.only
                    go_wp2_with fail
                    go_quiet (first | (go_at_call 230; exact Calls.quiet_of (CL _)) | fail)
                    go_wp2
                    go_ret
                    exact ⟨by rw [HR.out]; rfl, HO1.out.trans (only_drew _ _ _)⟩
            · have hk' : k = ni := by have := HTL.out; omega
              have HR : Hid (brT ns f x nx = some (.mk [] ts, nx')) := by
                show _ = _
                have h1 := HRD.out
                rw [hk', li.out, List.drop_length, rdIL] at h1
                rw [brT, if_pos HOK.out, ← h1]
              have HFIN := hid HBI.out.limb
              have HO1 := hid HBI.out.only
              have HWK := hid HBI.out.walk
              clear hk' HBI
              go_wp2
              go_ret
              exact ⟨by rw [HR.out]; exact ⟨_, rfl, HFIN.out, HWK.out⟩, HO1.out⟩
        · have HR : Hid (brT ns f x nx = none) := by show _ = _; rw [brT, if_neg]; rw [LB.out]; simp [a4]
          have e4 : ((np : Int) != 0) = true := by simp; omega
          clear LB a3 a4
          go_enter Tryz.func210, Tryz.ntmps210
          go_wp2
          go_ret
          exact ⟨by rw [HR.out]; rfl, only_of_below HB0.out _⟩
      · have HR : Hid (brT ns f x nx = none) := by show _ = _; rw [brT, if_neg]; rw [LB.out]; simp [a3]
        have e3 : ((nk : Int) != (ni : Int) - 1) = true := by simp [a3]
        clear LB a3
        go_enter Tryz.func210, Tryz.ntmps210
        go_wp2
        go_ret
        exact ⟨by rw [HR.out]; rfl, only_of_below HB0.out _⟩
open Go.RowKit
theorem ReadPost.mono {o : Option (T × Nat)} {w u : World} {wb : Nat} {nv : Value} {e : Ending} {w' : World} (h : ReadPost o u wb nv e w') (hs : w.heap.size ≤ u.heap.size) : ReadPost o w wb nv e w' := by
  cases o with
  | none => exact h
  | some tn =>
    obtain ⟨t, n⟩ := tn
    obtain ⟨b, h1, h2, h3⟩ := h
    exact ⟨b, h1, h2.mono (fun y hy => ⟨Nat.le_trans hs hy.1, hy.2⟩), h3⟩
theorem LimbOr.ret {o : Option T} {w : World} {e : Ending} {w' : World} (h : LimbOr o w e w') : ∃ p, e = .returned (.pointer p) := by
  cases o with
  | none => exact ⟨none, h⟩
  | some t => obtain ⟨b, h1, _⟩ := h; exact ⟨_, h1⟩
theorem ReadPost.ret {o : Option (T × Nat)} {w : World} {wb : Nat} {nv : Value} {e : Ending} {w' : World} (h : ReadPost o w wb nv e w') : ∃ p, e = .returned (.pointer p) := by
  cases o with
  | none => exact ⟨none, h⟩
  | some tn => obtain ⟨t, n⟩ := tn; obtain ⟨b, h1, _⟩ := h; exact ⟨_, h1⟩
theorem rdI_no {ns : List NB} {f : Nat} {pl : Int} {nx : Nat} (h : pl ≠ (nx : Int) ∨ (ns.length : Int) ≤ pl) : rdI ns f pl nx = none := by
  cases f with
  | zero => rfl
  | succ f => rw [rdI, if_pos h]
theorem rdI_leaf {ns : List NB} {f nx : Nat} (h : nx < ns.length) (hk : (nAt ns nx).kids.length = 0) : rdI ns (f + 1) nx nx = (leafT (nAt ns nx) (decide ((nx : Int) = 0))).map (fun t => (t, nx + 1)) := by
  rw [rdI, if_neg (by omega), if_pos hk, leafT]
  split <;> rfl
theorem rdI_br {ns : List NB} {f nx : Nat} (h : nx < ns.length) (hk : (nAt ns nx).kids.length ≠ 0) : rdI ns (f + 1) nx nx = brT ns f (nAt ns nx) (nx + 1) := by
  rw [rdI, if_neg (by omega), if_neg hk]
  rfl
theorem read_post_leaf {w u w' : World} {x : NB} {r : Bool} {wb nx : Nat} {nv : Value} {e : Ending} (h : LimbOr (leafT x r) u e w') (hs : w.heap.size ≤ u.heap.size) (hb : Bk w' wb 221 [nv, .int .i64 (nx + 1 : Nat)]) :
    ReadPost ((leafT x r).map (fun t => (t, nx + 1))) w wb nv e w' := by
  cases ho : leafT x r with
  | none => rw [ho] at h; exact h
  | some t =>
    rw [ho] at h
    obtain ⟨b, h1, h2⟩ := h
    exact ⟨b, h1, h2.mono (fun y hy => ⟨Nat.le_trans hs hy.1, hy.2⟩), hb⟩
set_option maxHeartbeats 8000000 in
theorem read_any (ns : List NB) : ∀ f, ReadC ns f := by
  intro f
  induction f with
  | zero =>
    intro S wb an nn cn pl nx w hW hN hwb hlen hnx hf
    have HR : Hid (rdI ns 0 pl nx = none) := rfl
    have hnn := hN.len.1
    have c0 := hW.cell (j := 0) rfl
    have c1 := hW.cell (j := 1) rfl
    by_cases hp : pl = (nx : Int)
    · have e1 : (pl != (nx : Int)) = false := by simp [hp]
      have e2 : (nn : Int) ≤ pl := by omega
      clear hW hN hnn hp
      go_enter Tryz.func174, Tryz.ntmps174
      go_wp2
      go_ret
      exact ⟨by rw [HR.out]; rfl, Only.refl _ _⟩
    · have e1 : (pl != (nx : Int)) = true := by simp [hp]
      clear hW hN hnn hp
      go_enter Tryz.func174, Tryz.ntmps174
      go_wp2
      go_ret
      exact ⟨by rw [HR.out]; rfl, Only.refl _ _⟩
  | succ f ih =>
    intro S wb an nn cn pl nx w hW hN hwb hlen hnx hf
    have hnn := hid hN.len.1
    have c0 := hW.cell (j := 0) rfl
    have c1 := hW.cell (j := 1) rfl
    by_cases hp : pl = (nx : Int)
    · subst hp
      have e1 : ((nx : Int) != (nx : Int)) = false := by simp
      by_cases hl : nn ≤ nx
      · have HR : Hid (rdI ns (f + 1) nx nx = none) := rdI_no (.inr (by rw [← hnn.out]; omega))
        have e2 : (nn : Int) ≤ (nx : Int) := by omega
        clear hW hN hl
        go_enter Tryz.func174, Tryz.ntmps174
        go_wp2
        go_ret
        exact ⟨by rw [HR.out]; rfl, Only.refl _ _⟩
      · have e2 : ¬ (nn : Int) ≤ (nx : Int) := by omega
        have HL : Hid (nx < ns.length) := by show _ < _; rw [← hnn.out]; omega
        have HIH := hid ih
        have HW := hid hW
        have HN := hid hN
        have HWB := hid hwb
        have HLEN := hid hlen
        have HF := hid hf
        have hlt' : (nx : Int) < (nn : Int) := by omega
        have hnx3 : nx < 400 := by have := HL.out; omega
        clear ih hN hwb hf hlen hnx
        obtain ⟨b, off, han, hSb, hbw, hcell⟩ := HN.out.at (by omega)
        subst han
        obtain ⟨ap, np, cp, ax, nk, cx, ai, ni, ci, d0, d1, d2, hp, hx, hi⟩ := hcell nx (by omega)
        have li := hid (Rw.len hi).1
        have HP := hid hp
        have HX := hid hx
        have HI := hid hi
        have hbne : b ≠ wb := by rintro rfl; exact HWB.out hSb
        have f1 := hW.free 1
        have b5 := (Rw.len hi).2.1
        have b6 := (Rw.len hi).2.2
        clear hcell hp hx hi hSb
        have HO1 : Hid (Only (fun b => b = wb) w ((w.setCell ⟨wb, 1, none⟩ (.int .i64 ((nx : Int) + 1))).alloc (.cells #[.slice ap np cp, .slice ax nk cx, .slice ai ni ci] 97))) := (only_set (R := fun b => b = wb) rfl _).trans (only_alloc _ _ _)
        have HWK : Hid (Bk ((w.setCell ⟨wb, 1, none⟩ (.int .i64 ((nx : Int) + 1))).alloc (.cells #[.slice ap np cp, .slice ax nk cx, .slice ai ni ci] 97)) wb 221 [.slice (some ⟨b, off, none⟩) nn cn, .int .i64 ((nx + 1 : Nat) : Int)]) := by
          show Bk _ _ _ _
          exact (HW.out.set 1 (.int .i64 ((nx : Int) + 1))).alloc _
        have HN1 := hid (HN.out.to HO1.out (fun y hy _ e => HWB.out (e ▸ hy)))
        have HP1 := hid (HP.out.to HO1.out (fun y hy _ e => HWB.out (e ▸ hy)))
        have HX1 := hid (HX.out.to HO1.out (fun y hy _ e => HWB.out (e ▸ hy)))
        have HI1 := hid (HI.out.to HO1.out (fun y hy _ e => HWB.out (e ▸ hy)))
        go_enter Tryz.func174, Tryz.ntmps174
        by_cases hk : ni = 0
        · have HR : Hid (rdI ns (f + 1) nx nx = (leafT (nAt ns nx) (decide ((nx : Int) = 0))).map (fun t => (t, nx + 1))) := rdI_leaf HL.out (by rw [← li.out]; exact hk)
          have HD : Hid (∀ r : Bool, r = decide ((nx : Int) = 0) → leafT (nAt ns nx) r = leafT (nAt ns nx) (decide ((nx : Int) = 0))) := by rintro _ rfl; rfl
          clear li
          subst hk
          go_wp2_with fail
          refine (readLeaf_any S ap ax ai np cp nk cx 0 ci (nAt ns nx) _ _ HP1.out HX1.out).mono ?_
          rintro e w2 ⟨hpost, hb2⟩
          obtain ⟨p, he⟩ := hpost.ret
          subst he
          have HPOST : Hid (ReadPost ((leafT (nAt ns nx) (decide ((nx : Int) = 0))).map (fun t => (t, nx + 1))) w wb (.slice (some ⟨b, off, none⟩) nn cn) (.returned (.pointer p)) w2) := by
            refine read_post_leaf (w := w) ?_ HO1.out.size (HWK.out.below hb2)
            rw [HD.out _ ?_] at hpost
            · exact hpost
            · by_cases h0 : nx = 0
              · subst h0; rfl
              · simp [h0]
          have HO2 := hid (HO1.out.trans (only_of_below hb2 _))
          clear hpost hb2 HD
          go_wp2
          go_ret
          exact ⟨by rw [HR.out]; exact HPOST.out, HO2.out⟩
        · have HR : Hid (rdI ns (f + 1) nx nx = brT ns f (nAt ns nx) (nx + 1)) := rdI_br HL.out (by rw [← li.out]; exact hk)
          have hk' : ((ni : Int) == 0) = false := by simp; omega
          clear hk
          go_wp2_with fail
          refine (readBranch_any ns f HIH.out S wb (some ⟨b, off, none⟩) nn cn ap ax ai np cp nk cx ni ci (nAt ns nx) (nx + 1) _ HWK.out HN1.out HWB.out HLEN.out HL.out (by have := HF.out; omega) HP1.out HX1.out HI1.out).mono ?_
          rintro e w2 ⟨hpost, ho2⟩
          obtain ⟨p, he⟩ := hpost.ret
          subst he
          have HPOST := hid (hpost.mono (w := w) HO1.out.size)
          have HO2 := hid (HO1.out.trans ho2)
          clear hpost ho2
          go_wp2
          go_ret
          exact ⟨by rw [HR.out]; exact HPOST.out, HO2.out⟩
    · have e1 : (pl != (nx : Int)) = true := by simp [hp]
      have HR : Hid (rdI ns (f + 1) pl nx = none) := rdI_no (.inl hp)
      clear hW hN hp
      go_enter Tryz.func174, Tryz.ntmps174
      go_wp2
      go_ret
      exact ⟨by rw [HR.out]; rfl, Only.refl _ _⟩
open Go.RowKit
mutual
theorem full_all_le : ∀ (t : T) (r : Bool), t.full r = true → t.all.length ≤ 4 * t.size
  | .mk ps ks, r, h => by
    by_cases hk : ks = []
    · subst hk
      have := full_lf h
      simp [T.size, szL, T.all, allL]
      omega
    · obtain ⟨h1, h2, rfl, h3⟩ := full_br h hk
      have := fullL_all_le ks h3
      simp [T.size, T.all]
      omega
theorem fullL_all_le : ∀ (ks : List T), (∀ k ∈ ks, k.full false = true) → (allL ks).length ≤ 4 * szL ks
  | [], _ => by simp [szL, allL]
  | k :: ks, h => by
    have h1 := full_all_le k false (h k (by simp))
    have h2 := fullL_all_le ks (fun x hx => h x (by simp [hx]))
    simp [szL, allL]
    omega
end
set_option maxHeartbeats 8000000 in
theorem rootOf_any (S : Nat → Prop) (an : Option Addr) (nn cn : Nat) (ns : List NB) (w : World) (hN : Nr w S (.slice an nn cn) ns) :
    Calls Tryz.prog 118 #[.agg #[.slice an nn cn]] w fun e w' => LimbOr (okT ns) w e w' ∧ Below w.heap.size w w' := by
  have hnn := hid hN.len.1
  have h1 := hN.len.2.1
  have h2 := hN.len.2.2
  have HN : Hid (Nr w (fun y => y < w.heap.size) (.slice an nn cn) ns) := hN.mono (fun b _ h => h)
  clear hN
  have HB0 := hid (below_new (o := .cells #[.slice an nn cn] 28) (w := w) (Below.refl _ _))
  by_cases a1 : nn = 0
  · have HR : Hid (okT ns = some (.mk [] [])) := by show _ = _; rw [okT, if_pos]; rw [← hnn.out]; exact a1
    have HL : Hid (Limb ((w.alloc (.cells #[.slice an nn cn] 28)).alloc (.cells #[.slice none 0 0, .slice none 0 0] 219)) (fun y => w.heap.size ≤ y ∧ y < ((w.alloc (.cells #[.slice an nn cn] 28)).alloc (.cells #[.slice none 0 0, .slice none 0 0] 219)).heap.size) (w.heap.size + 1) (.mk [] [])) := by
      have hk := Bk.new (w.alloc (.cells #[.slice an nn cn] 28)) 219 [.slice none 0 0, .slice none 0 0]
      refine limb_leaf (lo := w.heap.size) (by simpa using hk) (by omega) (ow_nil _ _) (by simp [Value.ownBlock]) _ (fun y h1 h2 => ⟨h1, h2⟩)
    clear hnn HN
    subst a1
    go_enter Tryz.func118, Tryz.ntmps118
    go_wp2
    go_ret
    refine ⟨?_, below_new (below_new (Below.refl _ _))⟩
    rw [HR.out]
    exact ⟨_, rfl, HL.out⟩
  · have e1 : ((nn : Int) == 0) = false := by simp; omega
    by_cases a2 : 400 ≤ nn
    · have e2 : (400 : Int) ≤ (nn : Int) := by omega
      have HR : Hid (okT ns = none) := by show _ = _; rw [okT, if_neg, if_pos] <;> rw [← hnn.out] <;> omega
      clear a1 a2
      go_enter Tryz.func118, Tryz.ntmps118
      go_wp2
      go_ret
      refine ⟨?_, HB0.out⟩
      rw [HR.out]
      rfl
    · have e2 : ¬ (400 : Int) ≤ (nn : Int) := by omega
      have HLEN : Hid (ns.length < 400) := by show _ < _; rw [← hnn.out]; omega
      have HB1 : Hid (Below w.heap.size w ((w.alloc (.cells #[.slice an nn cn] 28)).alloc (.cells #[.slice an nn cn, .int .i64 0] 221))) := below_new (below_new (Below.refl _ _))
      have KW : Hid (Bk ((w.alloc (.cells #[.slice an nn cn] 28)).alloc (.cells #[.slice an nn cn, .int .i64 0] 221)) (w.heap.size + 1) 221 [.slice an nn cn, .int .i64 (0 : Nat)]) := by
        have hk := Bk.new (w.alloc (.cells #[.slice an nn cn] 28)) 221 [.slice an nn cn, .int .i64 0]
        show Bk _ _ _ _
        simpa using hk
      have KT : Hid (Bk ((w.alloc (.cells #[.slice an nn cn] 28)).alloc (.cells #[.slice an nn cn, .int .i64 0] 221)) w.heap.size 28 [.slice an nn cn]) := (Bk.new w 28 [.slice an nn cn]).alloc _
      have HZ : Hid (((w.alloc (.cells #[.slice an nn cn] 28)).alloc (.cells #[.slice an nn cn, .int .i64 0] 221)).heap.size = w.heap.size + 2) := by show _ = _; simp
      clear a2
      go_enter Tryz.func118, Tryz.ntmps118
      go_wp2_with fail
      refine (read_any ns ns.length (fun y => y < w.heap.size) (w.heap.size + 1) an nn cn 0 0 _ KW.out (HN.out.below HB1.out) (by omega) HLEN.out (Nat.zero_le _) (by omega)).mono ?_
      generalize (w.alloc (.cells #[.slice an nn cn] 28)).alloc (.cells #[.slice an nn cn, .int .i64 0] 221) = W at *
      rintro e w1 ⟨hpost, ho1⟩
      cases hr : rdI ns ns.length 0 0 with
      | none =>
        rw [hr] at hpost
        have he : e = .returned (.pointer none) := hpost
        subst he
        have HR : Hid (okT ns = none) := by
          show _ = _
          rw [okT, if_neg (by rw [← hnn.out]; exact a1), if_neg (by have := HLEN.out; omega), hr]
        have KT1 := hid (KT.out.to ho1 (by omega))
        have HB2 : Hid (Below w.heap.size w w1) := HB1.out.trans (ho1.below (by have := HZ.out; omega) (fun b hb e => by omega))
        clear hpost ho1
        go_wp2
        go_ret
        exact ⟨by rw [HR.out]; rfl, HB2.out⟩
      | some tn =>
        obtain ⟨t, n1⟩ := tn
        rw [hr] at hpost
        obtain ⟨b, he, hL, hW⟩ := hpost
        subst he
        have KT1 := hid (KT.out.to ho1 (by omega))
        have HB2 : Hid (Below w.heap.size w w1) := HB1.out.trans (ho1.below (by have := HZ.out; omega) (fun b hb e => by omega))
        have HL := hid hL
        have KW1 := hid hW
        have HRI := hid (rdI_rdy hr (by have := HLEN.out; omega))
        have HAL : Hid (t.all.length ≤ 1048576) := by
          show _ ≤ _
          obtain ⟨_, _, g3, _, g5, rfl⟩ := rdI_sound ns _ _ _ _ _ hr
          have g6 := full_all_le t _ g3
          have g7 := HRI.out.2.1
          have := HLEN.out
          omega
        have HOT : Hid (okT ns = if n1 = ns.length ∧ pOk t.all = true then some t else none) := by
          show _ = _
          rw [okT, if_neg (by rw [← hnn.out]; exact a1), if_neg (by have := HLEN.out; omega), hr]
        have c0 := KT1.out.cell (j := 0) rfl
        have c1 := KW1.out.cell (j := 1) rfl
        clear hL hW ho1 hr
        by_cases hn1 : n1 = nn
        · have e3 : ((n1 : Int) != (nn : Int)) = false := by simp [hn1]
          have HN1 := hid hn1
          clear hn1
          go_wp2_with fail
          refine (all_any t (fun y => W.heap.size ≤ y ∧ y < w1.heap.size) b w1 w1.heap.size (.slice none 0 0) [] HL.out (fun y hy => hy.2) (Nat.le_refl _) (ow_nil _ _) (by have := HAL.out; simp; omega)).mono ?_
          rintro e w2 ⟨v2, rfl, hO2, hb2⟩
          rw [List.nil_append] at hO2
          have HO2 := hid hO2
          have HB3 : Hid (Below w.heap.size w w2) := HB2.out.trans (hb2.mono HB2.out.size)
          have HL2 := hid (HL.out.kept hb2)
          have HSZ2 := hid hb2.size
          obtain ⟨a2, n2, cc2, hv2, HN2⟩ := hO2.shape'
          subst hv2
          clear hO2 hb2
          go_wp2_with fail
          refine (implPairsOk_any (fun _ => True) _ t.all w2 (HO2.out.pr (fun _ _ _ _ => trivial))).mono ?_
          rintro e w3 ⟨rfl, hb3⟩
          have HB4 : Hid (Below w.heap.size w w3) := HB3.out.trans (hb3.mono HB3.out.size)
          have HL3 : Hid (Limb w3 (fun y => w.heap.size ≤ y ∧ y < w3.heap.size) b t) := by
            refine (HL2.out.kept hb3).mono (fun y hy => ⟨?_, ?_⟩)
            · have := HZ.out; have := hy.1; omega
            · have := HSZ2.out; have := hb3.size; have := hy.2; omega
          clear hb3
          cases hpk : pOk t.all
          · have HR : Hid (okT ns = none) := by show _ = _; rw [HOT.out, if_neg]; rw [hpk]; simp
            clear HOT hpk
            go_wp2
            go_ret
            exact ⟨by rw [HR.out]; rfl, HB4.out⟩
          · have HR : Hid (okT ns = some t) := by show _ = _; rw [HOT.out, if_pos]; exact ⟨by rw [HN1.out, hnn.out], hpk⟩
            clear HOT hpk
            go_wp2
            go_ret
            exact ⟨by rw [HR.out]; exact ⟨_, rfl, HL3.out⟩, HB4.out⟩
        · have e3 : ((n1 : Int) != (nn : Int)) = true := by simp; omega
          have HR : Hid (okT ns = none) := by show _ = _; rw [HOT.out, if_neg]; rintro ⟨h, _⟩; exact hn1 (by rw [h, hnn.out])
          clear hn1 HOT
          go_wp2
          go_ret
          exact ⟨by rw [HR.out]; rfl, HB2.out⟩
open Go.RowKit
set_option maxHeartbeats 2000000 in
theorem implTreeOk_any (S : Nat → Prop) (an : Option Addr) (nn cn : Nat) (ns : List NB) (w : World) (hN : Nr w S (.slice an nn cn) ns) :
    Calls Tryz.prog 57 #[.agg #[.slice an nn cn]] w fun e w' => e = .returned (.bool (okT ns).isSome) ∧ Below w.heap.size w w' := by
  have HN := hid hN
  have h1 := hN.len.2.1
  have h2 := hN.len.2.2
  clear hN
  have HB0 := hid (below_new (o := .cells #[.slice an nn cn] 28) (w := w) (Below.refl _ _))
  go_enter Tryz.func57, Tryz.ntmps57
  go_wp2_with fail
  refine (rootOf_any S an nn cn ns _ (HN.out.below HB0.out)).mono ?_
  generalize w.alloc (.cells #[.slice an nn cn] 28) = U at *
  rintro e w1 ⟨hpost, hb1⟩
  have HB1 : Hid (Below w.heap.size w w1) := HB0.out.trans (hb1.mono HB0.out.size)
  clear hb1
  cases hr : okT ns with
  | none =>
    rw [hr] at hpost
    have he : e = .returned (.pointer none) := hpost
    subst he
    have HR := hid hr
    clear hpost hr
    go_wp2
    go_ret
    exact ⟨by rw [HR.out]; rfl, HB1.out⟩
  | some t =>
    rw [hr] at hpost
    obtain ⟨b, he, hL⟩ := hpost
    subst he
    have HR := hid hr
    clear hL hr
    go_wp2
    go_ret
    exact ⟨by rw [HR.out]; rfl, HB1.out⟩
open Go.RowKit
open Go.RowKit
end Go.Proofs.YtmilnejacnaejaaGreatDoor
