/-
  DiskRead of the program.
-/
import Derived.Test.YtijinngmfalfcaaDoorDkR
namespace Go.Proofs.YtijinngmfalfcaaDoor
open Go.RowKit Go.Shelf
set_option linter.unusedVariables false
attribute [local go_sem] Oper.semAt_some
theorem results_rb {fn : Func} {p u : Tmp} (h : fn.results = #[.cell p 27, .cell u 4]) (tmps : Array Value) (w : World) (g g' : Nat) {x y : Value} (hp : tmps.getD p undef = .pointer (some ⟨g, 0, none⟩)) (hu : tmps.getD u undef = .pointer (some ⟨g', 0, none⟩))
    (c0 : w.cell? ⟨g, 0, none⟩ = some x) (c1 : w.cell? ⟨g', 0, none⟩ = some y) : (results fn tmps).run Tryd.prog w = .ok (.tuple #[x, y]) w := by
  have hp' : tmps[p]?.getD undef = .pointer (some ⟨g, 0, none⟩) := by simpa using hp
  have hu' : tmps[u]?.getD undef = .pointer (some ⟨g', 0, none⟩) := by simpa using hu
  have l0 : (loadVar 27 ⟨g, 0, none⟩).run Tryd.prog w = .ok x w := by go_simp
  have l1 : (loadVar 4 ⟨g', 0, none⟩).run Tryd.prog w = .ok y w := by go_simp
  simp [results, h, hp', hu', asAddr, l0, l1, Result.andThen]
theorem bk_keeps {X Y : World} {row : Option Nat} {g : Nat} {T : TypeId} {xs : List Value} (h : Bk X g T xs) (hg : X.grownBy Y row) (hr : ∀ r, row = some r → ∃ o : Obj, X.heap[r]? = some o ∧ o.isCells = false) : Bk Y g T xs :=
  (hg.block g h.lt (fun e => by obtain ⟨o, ho, hc⟩ := hr g e.symm; rw [show X.heap[g]? = _ from h] at ho; cases ho; cases hc)).trans h
theorem ob_keeps {X Y : World} {row : Option Nat} {B : Nat} {v : Value} {zs : List Int} (h : Ob X B v zs) (hg : X.grownBy Y row) (hr : ∀ r, row = some r → ∃ o : Obj, X.heap[r]? = some o ∧ o.isCells = false) : Ob Y B v zs := by
  have hlt := World.ownsRow.lt h
  refine ⟨h.1, h.2.imp id ?_⟩
  rintro ⟨g, cap, cur, rfl, k3, k4, k5⟩
  exact ⟨g, cap, cur, rfl, k3, (hg.block g (hlt g rfl).2 (fun e => by obtain ⟨o, ho, hc⟩ := hr g e.symm; rw [k4] at ho; cases ho; cases hc)).trans k4, k5⟩
theorem lastW_skip (ds : List DW) (t : Int) (n : Nat) : ∀ k, k ≤ n → (∀ i ∈ dnTo n k, (dwAt ds i).1 ≠ t) → lastW ds t n = lastW ds t (n - k) := by
  intro k
  induction k with
  | zero => intro _ _; rfl
  | succ k ih =>
    intro hk h
    rw [ih (by omega) (fun i hi => h i (by rw [dnTo_succ]; exact List.mem_append.2 (.inl hi)))]
    have hj := h (n - 1 - k) (by rw [dnTo_succ]; simp)
    rw [show n - k = (n - (k + 1)) + 1 by omega, lastW, if_neg (by rw [show n - (k + 1) = n - 1 - k by omega]; exact hj)]
theorem dnTo_prefix {n : Nat} {pre : List Nat} {j : Nat} (h : pre ++ [j] <+: dnTo n n) : pre.length < n ∧ pre = dnTo n pre.length ∧ j = n - 1 - pre.length := by
  have hl := h.length_le
  rw [dnTo_length] at hl
  simp at hl
  have h1 := List.prefix_iff_eq_take.1 h
  have h2 := List.prefix_iff_eq_take.1 (dnTo_pre n (show pre.length + 1 ≤ n by omega))
  rw [dnTo_length] at h2
  simp only [List.length_append, List.length_cons, List.length_nil, Nat.zero_add] at h1
  rw [← h2, dnTo_succ] at h1
  have h3 := List.append_inj' h1 rfl
  exact ⟨by omega, h3.1, by simpa using h3.2⟩
theorem wrr_fun {w : World} {S : Nat → Prop} {a : Option Addr} {n c : Nat} {ds : List DW} (h : Wrr w S (.slice a n c) ds) : ∃ (A : Nat → Option Addr) (N C : Nat → Nat), (∀ i, By w S (.slice (A i) (N i) (C i)) (dwAt ds i).2) ∧ Lsw w.heap.size w a n (fun i => (dwAt ds i).1) A N C := by
  have hn := h.len.1
  have ex : ∀ i, ∃ p : Option Addr × Nat × Nat, By w S (.slice p.1 p.2.1 p.2.2) (dwAt ds i).2 ∧ ∀ b off, i < n → a = some ⟨b, off, none⟩ → w.cell? ⟨b, off + i * 2, none⟩ = some (.int .i64 (dwAt ds i).1) ∧ w.cell? ⟨b, off + i * 2 + 1, none⟩ = some (.slice p.1 p.2.1 p.2.2) := by
    intro i
    by_cases hi : i < n
    · obtain ⟨b, off, rfl, _, _, hc⟩ := h.at (by omega)
      obtain ⟨ap, np, cp, c0, c1, hb⟩ := hc i hi
      exact ⟨(ap, np, cp), hb, fun b' off' _ e => by cases e; exact ⟨c0, c1⟩⟩
    · have : dwAt ds i = (0, []) := by simp [dwAt, show ds.length ≤ i by omega]
      rw [this]
      exact ⟨(none, 0, 0), ⟨rw_nil _ _, fun j => by simp⟩, fun b off h => absurd h hi⟩
  obtain ⟨f, hf⟩ := Classical.axiomOfChoice ex
  refine ⟨fun i => (f i).1, fun i => (f i).2.1, fun i => (f i).2.2, fun i => (hf i).1, fun hp => ?_⟩
  obtain ⟨b, off, rfl, _, hb, _⟩ := h.at hp
  exact ⟨b, off, rfl, hb, fun i hi => (hf i).2 b off hi rfl⟩
theorem Lsw.mono {n₀ n₁ : Nat} {W : World} {a : Option Addr} {n : Nat} {T : Nat → Int} {A : Nat → Option Addr} {N C : Nat → Nat} (h : Lsw n₀ W a n T A N C) (hb : n₀ ≤ n₁) : Lsw n₁ W a n T A N C := by
  intro hp
  obtain ⟨b, off, rfl, hbn, hc⟩ := h hp
  exact ⟨b, off, rfl, by omega, hc⟩
theorem keepsFrom_below {B : Nat} {W W' : World} (h : Below W.heap.size W W') : KeepsFrom B W W' := ⟨h.size, fun k o _ hk _ => (h.block k (Array.getElem?_eq_some_iff.1 hk).1).trans hk⟩
/-- The boxes of DiskRead: the disk, the place, the two results. -/
structure Rx (w v : World) (sa : Option Addr) (sn sc : Nat) (da : Option Addr) (dn dc : Nat) (t : Int) : Prop where
  k0 : Bk v w.heap.size 33 [.slice sa sn sc, .slice da dn dc]
  k1 : Bk v (w.heap.size + 1) 3 [.int .i64 t]
  k2 : Bk v (w.heap.size + 1 + 1) 27 [.slice none 0 0]
  k3 : Bk v (w.heap.size + 1 + 1 + 1) 4 [.bool false]
theorem Rx.below {w v v' : World} {sa : Option Addr} {sn sc : Nat} {da : Option Addr} {dn dc : Nat} {t : Int} (h : Rx w v sa sn sc da dn dc t) (hb : Below v.heap.size v v') : Rx w v' sa sn sc da dn dc t := ⟨h.k0.below hb, h.k1.below hb, h.k2.below hb, h.k3.below hb⟩
set_option maxHeartbeats 8000000 in
set_option maxRecDepth 100000 in
theorem implDiskRead_any (S : Nat → Prop) (sa : Option Addr) (sn sc : Nat) (da : Option Addr) (dn dc : Nat) (d : DK) (t : Int) (w : World) (h : Dk w S sa sn sc da dn dc d) (hsm : smallD d) (he : Err w 1) (he2 : Err w 0) :
    Calls Tryd.prog 7 #[.agg #[.slice sa sn sc, .slice da dn dc], .int .i64 t] w fun e w' => RdPost (rdV d t) w e w' := by
  refine (callsIn_wide (n := 9)).1 ?_
  refine callsIn_of_wp_marks Tryd.func7 rfl trivial ?_ rfl
  simp only [Tryd.ntmps7, List.size_toArray, List.length_cons, List.length_nil, Nat.reduceAdd, Nat.reduceSub, Array.replicate_succ, Array.replicate_zero, List.push_toArray, List.append_toArray, List.nil_append, List.cons_append]
  have HH := hid h
  have HSM := hid hsm
  have HE := hid he
  have HE2 := hid he2
  have hsc := h.hs.len.2
  have hdc := h.hd.len.2
  have HNS := hid h.hs.len.1
  have HND := hid h.hd.len.1
  have HV : Hid (rdV d t = if dkOk d = true ∧ 0 ≤ t ∧ t < (d.sh.length : Int) then some ((lastW d.dw t d.dw.length).getD (sheet (shAt d.sh t.toNat))) else none) := rfl
  have HN : Hid (¬ (dkOk d = true ∧ 0 ≤ t ∧ t < (d.sh.length : Int)) → rdV d t = none) := fun hh => by rw [HV.out, if_neg hh]
  have X0 : Hid (Rx w ((((w.alloc (.cells #[.slice sa sn sc, .slice da dn dc] 33)).alloc (.cells #[.int .i64 t] 3)).alloc (.cells #[.slice none 0 0] 27)).alloc (.cells #[.bool false] 4)) sa sn sc da dn dc t) := by
    refine ⟨(((Bk.new w 33 [.slice sa sn sc, .slice da dn dc]).alloc _).alloc _).alloc _, ?_, ?_, ?_⟩
    · have := ((Bk.new (w.alloc (.cells #[.slice sa sn sc, .slice da dn dc] 33)) 3 [.int .i64 t]).alloc (.cells #[.slice none 0 0] 27)).alloc (.cells #[.bool false] 4)
      simpa using this
    · have := (Bk.new ((w.alloc (.cells #[.slice sa sn sc, .slice da dn dc] 33)).alloc (.cells #[.int .i64 t] 3)) 27 [.slice none 0 0]).alloc (.cells #[.bool false] 4)
      simpa using this
    · have := Bk.new (((w.alloc (.cells #[.slice sa sn sc, .slice da dn dc] 33)).alloc (.cells #[.int .i64 t] 3)).alloc (.cells #[.slice none 0 0] 27)) 4 [.bool false]
      simpa using this
  have B0 : Hid (Below w.heap.size w ((((w.alloc (.cells #[.slice sa sn sc, .slice da dn dc] 33)).alloc (.cells #[.int .i64 t] 3)).alloc (.cells #[.slice none 0 0] 27)).alloc (.cells #[.bool false] 4))) := below_new (below_new (below_new (below_new (Below.refl _ _))))
  have HK := hid (implDiskOk_any S sa sn sc da dn dc d _ (h.below B0.out))
  clear h hsm he he2
  gi_wp2_with fail
  refine ⟨trivial, (callsIn_wide.2 HK.out).mono ?_⟩
  generalize (((w.alloc (.cells #[.slice sa sn sc, .slice da dn dc] 33)).alloc (.cells #[.int .i64 t] 3)).alloc (.cells #[.slice none 0 0] 27)).alloc (.cells #[.bool false] 4) = U at *
  rintro e w1 ⟨rfl, hb⟩
  have X1 := hid (X0.out.below hb)
  have B1 := hid (bt6 B0.out hb)
  clear hb HK X0 B0
  have HEND : Hid (∀ v : World, v = (w1.setCell ⟨w.heap.size + 1 + 1, 0, none⟩ (.slice none 0 0)).setCell ⟨w.heap.size + 1 + 1 + 1, 0, none⟩ (.bool false) → Below w.heap.size w v) := fun v e => by
    rw [e]
    exact (B1.out.setCell (p := ⟨w.heap.size + 1 + 1, 0, none⟩) (by show w.heap.size ≤ w.heap.size + 1 + 1; omega) _).setCell (p := ⟨w.heap.size + 1 + 1 + 1, 0, none⟩) (by show w.heap.size ≤ w.heap.size + 1 + 1 + 1; omega) _
  have c2 := X1.out.k2.cell (j := 0) rfl
  have f2 := X1.out.k2.free 0
  have c3 := X1.out.k3.cell (j := 0) rfl
  have f3 := X1.out.k3.free 0
  have c1 := X1.out.k1.cell (j := 0) rfl
  have d0 := X1.out.k0.cell (j := 0) rfl
  have d1 := X1.out.k0.cell (j := 1) rfl
  cases hok : dkOk d with
  | false =>
    have HF := hid (HN.out (by rw [hok]; simp))
    gi_wp2
    refine ⟨.tuple #[.slice none 0 0, .bool false], results_rb rfl _ _ _ _ rfl rfl (by go_simp) (by go_simp), ?_⟩
    rw [HF.out]
    exact ⟨_, _, _, rfl, World.ownsRow_nil _ _ _ _, HEND.out _ rfl⟩
  | true =>
    have HOK := hid hok
    clear hok
    by_cases t0 : t < 0
    · have HF := hid (HN.out (by omega))
      gi_wp2
      refine ⟨.tuple #[.slice none 0 0, .bool false], results_rb rfl _ _ _ _ rfl rfl (by go_simp) (by go_simp), ?_⟩
      rw [HF.out]
      exact ⟨_, _, _, rfl, World.ownsRow_nil _ _ _ _, HEND.out _ rfl⟩
    · by_cases t1 : (sn : Int) ≤ t
      · have HF := hid (HN.out (by rw [← HNS.out]; omega))
        gi_wp2
        refine ⟨.tuple #[.slice none 0 0, .bool false], results_rb rfl _ _ _ _ rfl rfl (by go_simp) (by go_simp), ?_⟩
        rw [HF.out]
        exact ⟨_, _, _, rfl, World.ownsRow_nil _ _ _ _, HEND.out _ rfl⟩
      · have HV2 : Hid (rdV d t = some ((lastW d.dw t d.dw.length).getD (sheet (shAt d.sh t.toNat)))) := by
          show _ = _
          rw [HV.out, if_pos ⟨HOK.out, by omega, by rw [← HNS.out]; omega⟩]
        clear HV HN HEND
        gi_wp2_with fail
        refine ⟨trivial, (behind_in Fence.wide _ trivial rfl _ _ _ _).mono ?_⟩
        rintro e w2 ⟨rfl, rfl⟩
        gi_wp2_with fail
        obtain ⟨A, N, C, hBY, hLS⟩ := wrr_fun HH.out.hd
        have hb2 := below_new (o := .cells #[.slice da dn dc] 31) (w := w1) (Below.refl _ _)
        have X2 := hid (X1.out.below hb2)
        have B2 := hid (bt6 B1.out hb2)
        have KB := hid (Bk.new w1 31 [.slice da dn dc])
        have S1 : Hid (w.heap.size + 4 ≤ w1.heap.size) := X1.out.k3.lt
        have S2 : Hid ((w1.alloc (.cells #[.slice da dn dc] 31)).heap.size = w1.heap.size + 1) := by show _ = _; simp
        clear hb2 X1 B1 c1 c2 c3 d0 d1 f2 f3
        generalize w1.alloc (.cells #[.slice da dn dc] 31) = W0 at *
        generalize w1.heap.size = b1 at *
        have s1 := S1.out
        have s2 := S2.out
        refine wpIn_rangeFunc_ownH rfl (by omega) (gf := 34) (lb := #[.pointer (some ⟨b1, 0, none⟩)]) rfl trivial (enters_of Tryd.func34 (by kernel_rfl) rfl)
          (behind_stops Fence.wide (9 - 1) trivial rfl (by omega) b1 W0.heap.size da dn dc (fun i => (dwAt d.dw i).1) A N C W0 (by omega) (Nat.le_refl _) (KB.out.cell (j := 0) rfl) ((hLS.below B2.out).mono (by omega)) hdc.1 hdc.2) belowK_t (belowK_b (Nat.le_refl _)) (Below.refl _ _) (fun _ => rfl)
          (fun pre W => (∀ j ∈ pre, (dwAt d.dw j).1 ≠ t) ∧ Below W0.heap.size W0 W)
          (fun c pre W => c = .ret ∧ (∃ j pre' a n c', pre = pre' ++ [j] ∧ (dwAt d.dw j).1 = t ∧ (∀ i ∈ pre', (dwAt d.dw i).1 ≠ t) ∧ Bk W (w.heap.size + 1 + 1) 27 [.slice a n c'] ∧ Bk W (w.heap.size + 1 + 1 + 1) 4 [.bool true] ∧ Ob W w.heap.size (.slice a n c') (dwAt d.dw j).2) ∧ Below w.heap.size w W)
          (OwnFrom.and (ownFrom_pure _ _) (ownFrom_below (Nat.le_refl _) (Nat.le_refl _)))
          (fun c s X Y row hs hg hr => by
            obtain ⟨e, ⟨j, pre', a, n, c', e1, e2, e3, k2, k3, hO⟩, hB⟩ := hs
            exact ⟨e, ⟨j, pre', a, n, c', e1, e2, e3, bk_keeps k2 hg (fun r e => (hr r e).2), bk_keeps k3 hg (fun r e => (hr r e).2), ob_keeps hO hg (fun r e => (hr r e).2)⟩, ownFrom_below (β := Unit) (Nat.le_refl _) (B := W0.heap.size) (by omega) () X Y row hB hg hr⟩)
          ⟨fun j hj => (by cases hj), Below.refl _ _⟩
          (fun x a' W => ∃ Bx, W0.heap.size ≤ Bx ∧ Bk W Bx 44 [.int .i64 (dwAt d.dw x).1, .slice (A x) (N x) (C x)] ∧ a' = { tmps := #[.agg #[.slice sa sn sc, .slice da dn dc], .int .i64 t, .pointer (some ⟨w.heap.size, 0, none⟩), .pointer (some ⟨w.heap.size + 1, 0, none⟩), .pointer (some ⟨w.heap.size + 1 + 1, 0, none⟩), .pointer (some ⟨w.heap.size + 1 + 1 + 1, 0, none⟩), .pointer (some ⟨Bx, 0, none⟩), .agg #[.slice sa sn sc, .slice da dn dc], .bool true, .bool false, .bool false, .int .i64 t, .bool (decide (t < 0)), .bool (decide (t < 0)), .bool (decide (t < 0)), .int .i64 t, .pointer (some ⟨w.heap.size, 0, none⟩), .slice sa sn sc, .int .i64 (sn : Int), .bool (decide ((sn : Int) ≤ t)), .bool (decide (t < 0) || decide ((sn : Int) ≤ t)), .pointer (some ⟨w.heap.size, 1, none⟩), .slice da dn dc, .func (.func 34) #[] #[.pointer (some ⟨b1, 0, none⟩)], .agg #[.int .i64 (dwAt d.dw x).1, .slice (A x) (N x) (C x)], undef, undef, undef, undef, undef, undef, undef, undef, undef, undef, undef, undef, undef, undef, undef, undef], defers := [] })
          (fun x a' _ X Y row hs hg hr => by obtain ⟨Bx, h1, h2, h3⟩ := hs; exact ⟨Bx, h1, bk_keeps h2 hg (fun r e => (hr r e).2), h3⟩)
          ?assign ?body ?done ?stop
        case assign =>
          rintro l pre x W K ⟨hne, hBW⟩ hK
          gi_wp2
          exact hK _ _ ((KeepsOthers.alloc _ _).from _) ((Below.refl _ W).alloc hBW.size _) ⟨hne, hBW.alloc hBW.size _⟩ ⟨W.heap.size, hBW.size, Bk.new W _ [_, _], rfl⟩
        case body =>
          rintro l pre x a' W hl ⟨r, hr⟩ ⟨hne, hBW⟩ ⟨Bx, hBx, kX, rfl⟩ hlt
          have e0 := kX.cell (j := 0) rfl
          have e1 := kX.cell (j := 1) rfl
          have XW := hid (X2.out.below hBW)
          have e2 := XW.out.k1.cell (j := 0) rfl
          have HW := hid hBW
          have HX := hid hBx
          have HNE := hid hne
          have BW := hid (bt6 B2.out hBW)
          clear hBW hBx hne hr
          generalize htt : (dwAt d.dw x).1 = tt at *
          have HTT := hid htt
          clear htt
          by_cases e : tt = t
          · subst e
            have hx1 : (dwAt d.dw x).2.length ≤ 1048576 := by
              by_cases hi : x < d.dw.length
              · exact HSM.out.2 x hi
              · simp [dwAt, show d.dw.length ≤ x by omega]
            have HRD := hid (((hBY x).below BW.out).rd (by rw [(hBY x).len.1]; exact hx1))
            have hxN : N x ≤ 1048576 := by rw [(hBY x).len.1]; exact hx1
            gi_wp2_with fail
            refine ⟨trivial, (CallsIn.inRound l (callsIn_wide.2 (copyBytes_any _ _ _ _ _ HRD.out hxN))).mono ?_⟩
            rintro e W3 ⟨v, rfl, hO, hb⟩
            obtain ⟨a3, c3, rfl⟩ := hO.shape
            have X3 := hid (XW.out.below hb)
            have c2 := X3.out.k2.cell (j := 0) rfl
            have f2 := X3.out.k2.free 0
            have c3' := X3.out.k3.cell (j := 0) rfl
            have f3 := X3.out.k3.free 0
            have HO := hid hO
            have HB := hid hb
            clear hO hb e0 e1 e2
            generalize hl3 : (dwAt d.dw x).2.length = L3 at *
            have HL3 := hid hl3
            clear hl3
            gi_wp2
            have hKF := ((keepsFrom_below (B := W0.heap.size) HB.out).trans ((KeepsOthers.setCell W3 ⟨w.heap.size + 1 + 1, 0, none⟩ (.slice a3 L3 c3)).from _)).trans ((KeepsOthers.setCell (W3.setCell ⟨w.heap.size + 1 + 1, 0, none⟩ (.slice a3 L3 c3)) ⟨w.heap.size + 1 + 1 + 1, 0, none⟩ (.bool true)).from _)
            have hBl := HW.out.size
            refine ⟨hKF, rfl, ⟨x, pre, a3, L3, c3, rfl, HTT.out, HNE.out, (X3.out.k2.set 0 _).setOther (by omega) 0 _, (X3.out.k3.setOther (by omega) 0 _).set 0 _, ?_⟩, ?_⟩
            · have O1 : Only (fun y => y < W.heap.size) W3 ((W3.setCell ⟨w.heap.size + 1 + 1, 0, none⟩ (.slice a3 L3 c3)).setCell ⟨w.heap.size + 1 + 1 + 1, 0, none⟩ (.bool true)) := (only_set (R := fun y => y < W.heap.size) (by show w.heap.size + 1 + 1 < _; omega) _).trans (only_set (R := fun y => y < W.heap.size) (by show w.heap.size + 1 + 1 + 1 < _; omega) _)
              exact ownD_base (own_kept HO.out O1 (fun y e e2 => by have := (World.ownsRow.lt HO.out y e).1; omega)) (by omega)
            · exact ((bt6 BW.out HB.out).setCell (p := ⟨w.heap.size + 1 + 1, 0, none⟩) (by show w.heap.size ≤ w.heap.size + 1 + 1; omega) _).setCell (p := ⟨w.heap.size + 1 + 1 + 1, 0, none⟩) (by show w.heap.size ≤ w.heap.size + 1 + 1 + 1; omega) _
          · have e' : (tt == t) = false := by simp [e]
            gi_wp2
            refine ⟨KeepsFrom.refl _ _, Below.refl _ _, fun j hj => ?_, HW.out⟩
            rcases List.mem_append.1 hj with hj | hj
            · exact HNE.out j hj
            · simp at hj
              subst hj
              rw [HTT.out]
              exact e
        case done =>
          rintro D ys W hD rfl ⟨hne, hBW⟩ hK
          have BW := hid (bt6 B2.out hBW)
          have XW := hid (X2.out.below hBW)
          have HW := hid hBW
          have HDD := hid hD
          have HKK := hid hK
          have HLW : Hid (lastW d.dw t d.dw.length = none) := by
            show _ = _
            rw [← HND.out, lastW_skip d.dw t dn dn (Nat.le_refl _) hne, Nat.sub_self]
            rfl
          clear hBW hne hD hK
          obtain ⟨u, hu⟩ : ∃ u : Nat, t = (u : Int) := ⟨t.toNat, by omega⟩
          subst hu
          obtain ⟨b, off, rfl, _, hbw, hcell⟩ := (HH.out.hs.below BW.out).at (by omega)
          obtain ⟨ap, np, cp, m0, hp⟩ := hcell u (by omega)
          have hul : u < d.sh.length := by rw [← HNS.out]; omega
          have hnp : np ≤ 1048576 := by rw [hp.len.1]; exact HSM.out.1 u hul
          have HC := hid (sheetBytes_any ap np cp (shAt d.sh u) W (hp.rd hnp) (HE.out.below BW.out HE.out.lt) (HE2.out.below BW.out HE2.out.lt))
          have HSV : Hid (shV (shAt d.sh u) = some (sheet (shAt d.sh u))) := by
            show _ = _
            rw [shV, if_pos]
            rw [shOk_sht]
            exact ((dkOk_iff d).1 HOK.out).2.2.2.1 u hul
          have HV3 : Hid (rdV d (u : Int) = some (sheet (shAt d.sh u))) := by
            show _ = _
            rw [HV2.out, HLW.out]
            simp
          have hu2 : (u : Int) < (sn : Int) := by omega
          have c1 := XW.out.k1.cell (j := 0) rfl
          have d0 := XW.out.k0.cell (j := 0) rfl
          clear hcell hbw hp
          gi_wp2_with fail
          refine ⟨trivial, (callsIn_wide.2 HC.out).mono ?_⟩
          intro e W3 hput
          rw [HSV.out] at hput
          rcases hput.2 with ⟨h, _⟩ | ⟨v, out, ho, rfl, hO⟩
          · cases h
          · cases ho
            obtain ⟨a3, c3, rfl⟩ := hO.shape
            have hb := hput.1
            have X3 := hid (XW.out.below hb)
            have c2 := X3.out.k2.cell (j := 0) rfl
            have f2 := X3.out.k2.free 0
            have c3' := X3.out.k3.cell (j := 0) rfl
            have f3 := X3.out.k3.free 0
            have HO := hid hO
            have HB := hid hb
            have hK3 : W3.heap[D]? = some (.deferred (some [])) := (hb.block D (Array.getElem?_eq_some_iff.1 HKK.out).1).trans HKK.out
            have HK3 := hid hK3
            clear hO hb hput c1 d0 m0 hK3
            generalize hl3 : (sheet (shAt d.sh u)).length = L3 at *
            gi_wp2
            have hK4 := (KeepsOthers.setCell W3 ⟨w.heap.size + 1 + 1, 0, none⟩ (.slice a3 L3 c3)).same D _ HK3.out rfl
            have hK5 := (KeepsOthers.setCell (W3.setCell ⟨w.heap.size + 1 + 1, 0, none⟩ (.slice a3 L3 c3)) ⟨w.heap.size + 1 + 1 + 1, 0, none⟩ (.bool true)).same D _ hK4 rfl
            refine ⟨by simp, .inl ⟨_, _, rfl, run_takeDeferred hK5, ?_⟩⟩
            have hBl := HW.out.size
            have hDl := HDD.out
            have kk2 := bk_keeps ((X3.out.k2.set 0 (.slice a3 L3 c3)).setOther (b := w.heap.size + 1 + 1 + 1) (by omega) 0 (.bool true)) (grownBy_putObj' _ D (.deferred none)) (fun r e => by cases e; exact ⟨_, hK5, rfl⟩)
            have kk3 := bk_keeps ((X3.out.k3.setOther (b := w.heap.size + 1 + 1) (by omega) 0 (.slice a3 L3 c3)).set 0 (.bool true)) (grownBy_putObj' _ D (.deferred none)) (fun r e => by cases e; exact ⟨_, hK5, rfl⟩)
            refine ⟨.tuple #[.slice a3 L3 c3, .bool true], results_rb rfl _ _ _ _ rfl rfl (kk2.cell (j := 0) rfl) (kk3.cell (j := 0) rfl), ?_⟩
            rw [HV3.out]
            refine ⟨_, _, _, rfl, ?_, ?_⟩
            · have O1 : Only (fun y => y < W.heap.size) W3 ((W3.setCell ⟨w.heap.size + 1 + 1, 0, none⟩ (.slice a3 L3 c3)).setCell ⟨w.heap.size + 1 + 1 + 1, 0, none⟩ (.bool true)) := (only_set (R := fun y => y < W.heap.size) (by show w.heap.size + 1 + 1 < _; omega) _).trans (only_set (R := fun y => y < W.heap.size) (by show w.heap.size + 1 + 1 + 1 < _; omega) _)
              exact ob_keeps (ownD_base (own_kept HO.out O1 (fun y e e2 => by have := (World.ownsRow.lt HO.out y e).1; omega)) (by omega)) (grownBy_putObj' _ D (.deferred none)) (fun r e => by cases e; exact ⟨_, hK5, rfl⟩)
            · exact ((((bt6 BW.out HB.out).setCell (p := ⟨w.heap.size + 1 + 1, 0, none⟩) (by show w.heap.size ≤ w.heap.size + 1 + 1; omega) _).setCell (p := ⟨w.heap.size + 1 + 1 + 1, 0, none⟩) (by show w.heap.size ≤ w.heap.size + 1 + 1 + 1; omega) _)).trans (belowK_b (w := w) (Nat.le_refl _) _ D _ _ (by omega) hK5 rfl rfl)
        case stop =>
          rintro D c pre W hD hpre ⟨rfl, ⟨j, pre', a, n, c', rfl, hT, hne, k2, k3, hO⟩, hB⟩ hK
          obtain ⟨p1, p2, p3⟩ := dnTo_prefix hpre
          have HV3 : Hid (rdV d t = some (dwAt d.dw j).2) := by
            show _ = _
            rw [p2] at hne
            rw [HV2.out, ← HND.out, lastW_skip d.dw t dn _ (by omega) hne, show dn - pre'.length = (dn - 1 - pre'.length) + 1 by omega, lastW, ← p3, if_pos hT]
            rfl
          have HK2 := hid k2
          have HK3 := hid k3
          have HO := hid hO
          have HB := hid hB
          have HKK := hid hK
          have HDD := hid hD
          clear k2 k3 hO hB hK hD hne hpre p1 p2 p3
          gi_wp2
          have hDl := HDD.out
          refine ⟨by simp, .inl ⟨_, _, rfl, run_takeDeferred HKK.out, ?_⟩⟩
          have kk2 := bk_keeps HK2.out (grownBy_putObj' _ D (.deferred none)) (fun r e => by cases e; exact ⟨_, HKK.out, rfl⟩)
          have kk3 := bk_keeps HK3.out (grownBy_putObj' _ D (.deferred none)) (fun r e => by cases e; exact ⟨_, HKK.out, rfl⟩)
          refine ⟨.tuple #[.slice a n c', .bool true], results_rb rfl _ _ _ _ rfl rfl (kk2.cell (j := 0) rfl) (kk3.cell (j := 0) rfl), ?_⟩
          rw [HV3.out]
          exact ⟨_, _, _, rfl, ob_keeps HO.out (grownBy_putObj' _ D (.deferred none)) (fun r e => by cases e; exact ⟨_, HKK.out, rfl⟩), HB.out.trans (belowK_b (w := w) (Nat.le_refl _) W D _ _ (by omega) HKK.out rfl rfl)⟩
end Go.Proofs.YtijinngmfalfcaaDoor

