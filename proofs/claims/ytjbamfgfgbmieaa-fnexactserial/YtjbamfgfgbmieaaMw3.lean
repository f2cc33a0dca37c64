/-
  The program's sorted list: slices.Insert of one pair.
-/
import Derived.Test.YtjbamfgfgbmieaaMw2
import Derived.Test.YtjbamfgfgbmieaaMw1
import Derived.Deep.DeepCutAuto
import Derived.Deep.RegionLaw
namespace Go.Proofs.Ytjbamfgfgbmieaa
open Go.RowKit
theorem append_mix {P : Program} {t t2 e : TypeId} (h : P.underlying t = some (.slice e)) (h2 : P.underlying t2 = some (.slice e)) {ty : TypeId} {args : Array Value} {w : World} :
    (Builtin.append_ #[t, t2] ty args).run P w = (Builtin.append_ #[t, t] ty args).run P w := by
  unfold Builtin.append_
  simp only [List.getElem?_toArray, List.getElem?_cons_zero, List.getElem?_cons_succ]
  cases ha : args[0]? with
  | none => rfl
  | some s =>
    cases hb : args[1]? with
    | none => rfl
    | some x =>
      cases s <;> simp only [Sem.run_bind, run_underlying h, run_underlying h2, Result.andThen_ok]
theorem wpList_append_row_mix {P : Program} {w : World} {ops : Array Oper} {rest : List Oper} {o : Oper} {a : Act} {Q : Exit → Act → World → Prop} (hgd : o.guard = none) (s x : Operand) (t t2 : TypeId)
    (ho : o.op = .call { callee := .builtin .append, args := #[s, x], argTypes := #[t, t2] })
    (base : Nat) (e : TypeId) (i : TypeInfo) (z : Value) (size bytes : Nat) (ht : P.underlying t = some (.slice e)) (ht2 : P.underlying t2 = some (.slice e)) (hi : P.info? e = some i) (hz : i.zero = some z)
    (hsize : i.size = size) (hby : i.bytes = bytes) (hzs : z.cells.size = size) (hsz : 0 < size) (v : Value) (n : Nat) (xs : List Value) (hs : a.eval s = v) (hown : w.ownsRow base e size v n xs)
    (S : Nat → Prop) (src : Value) (m : Nat) (news : List Value) (hx : a.eval x = src) (hsrc : Rw w S src m news) (hl : news.length = m * size) (h1 : ∀ u ∈ news, u.oneCell' = true)
    (h63 : n + m ≤ maxLen) (hbytes : (n + m) * bytes ≤ 140737488355328) (hbase : base ≤ w.heap.size)
    (h : ∀ v' w', w'.ownsRow base e size v' (n + m) (xs ++ news) → w.grownBy w' v.ownBlock → (v'.ownBlock = v.ownBlock ∨ v'.ownBlock = some w.heap.size) → wpList P ops Q rest (a.put o.dst v') w') : wpList P ops Q (o :: rest) a w := by
  refine wpList_plain hgd fun K hK => ?_
  obtain ⟨v', w', hr, h2, h3, h4⟩ := run_append_row_at (P := P) (w := w) base t o.type e i z size bytes ht hi hz hsize hby hzs hsz v n xs hown S src m news hsrc hl h1 h63 hbytes hbase
  rw [← append_mix ht ht2] at hr
  unfold Oper.wp execOp
  simp only [ho, resolve, invoke, builtin, Sem.run_bind, Sem.run_pure, Result.andThen_ok, List.map_toArray, List.map_cons, List.map_nil, hs, hx, hr]
  exact hK _ _ (h v' w' h2 h3 h4)
set_option maxHeartbeats 4000000 in
set_option maxRecDepth 100000 in
theorem insertS_any (v : Value) (n i vb base : Nat) (xs ys : List Value) (w : World) (hO : w.ownsRow base 34 2 v n xs) (hbase : base ≤ w.heap.size) (hi : i ≤ n) (hn : n ≤ 1048576) (hB : Bk w vb 34 ys) (hy : ys.length = 2)
    (h1x : ∀ u ∈ xs, u.oneCell' = true) (h1y : ∀ u ∈ ys, u.oneCell' = true) (hne : v.ownBlock ≠ some vb) :
    Calls Try.prog 87 #[v, .int .i64 i, .slice (some ⟨vb, 0, none⟩) 1 1] w fun e w' => InsPost 34 2 base (xs.take (i * 2) ++ ys ++ xs.drop (i * 2)) (n + 1) v w e w' := by
  obtain ⟨ti, hti, htz, hts, htb⟩ := info_of infoPairI
  have hsz : (Try.prog.info? 34).map (·.size) = some 2 := by rw [hti]; simp [hts]
  have HO := hid hO
  have HB := hid hB
  have HX := hid h1x
  have HY := hid (And.intro hy h1y)
  have HL := hid hO.1
  obtain ⟨a, c, hv⟩ := own_shape hO
  subst hv
  have hnc : n ≤ c ∧ c ≤ 9223372036854775807 := by
    rcases hO.2 with ⟨e, h0⟩ | ⟨g, cap, cur, e, _, _, h5, h6, _⟩
    · cases e; omega
    · cases e; unfold maxLen at h6; omega
  clear h1x hy h1y hB
  by_cases hin : i = n
  · subst hin
    have HE : Hid (xs.take (i * 2) ++ ys ++ xs.drop (i * 2) = xs ++ ys) := by
      show _ = _
      rw [List.take_of_length_le (by have := HL.out; omega), List.drop_eq_nil_of_le (by have := HL.out; omega), List.append_nil]
    clear hO hne
    by_cases hci : c = i
    · subst hci
      go_enter Try.func87, Try.ntmps87
      go_wp2_with (at_builtin; refine wpList_append_row_mix rfl _ _ 68 23 rfl base 34 ti _ 2 32 Try.underlying68 Try.underlying23 hti htz hts htb rfl (by decide) _ c xs rfl HO.out (fun _ => True) _ 1 ys rfl (HB.out.rw (Nat.le_refl _) (by omega) (fun h => by omega) _ trivial) (by rw [HY.out.1]) HY.out.2 (by unfold maxLen; omega) (by omega) hbase ?_)
      intro v' w' k1 k2 k3
      obtain ⟨a', c', rfl⟩ := own_shape k1
      have HK : Hid (InsPost 34 2 base (xs ++ ys) (c + 1) (.slice a c c) w (.returned (.slice a' (c + 1) c')) w') := ⟨a', c', rfl, k1, k2, by
        rcases k3 with e | e
        · exact .inl e
        · exact .inr ⟨_, e, Nat.le_refl _⟩⟩
      clear k1 k2 k3
      go_wp2
      go_ret
      rw [HE.out]
      exact HK.out
    · have hci' : ¬ c = i := hci
      go_enter Try.func87, Try.ntmps87
      go_wp2_with (at_builtin; refine wpList_append_row_mix rfl _ _ 68 23 rfl base 34 ti _ 2 32 Try.underlying68 Try.underlying23 hti htz hts htb rfl (by decide) _ i xs rfl HO.out (fun _ => True) _ 1 ys rfl (HB.out.rw (Nat.le_refl _) (by omega) (fun h => by omega) _ trivial) (by rw [HY.out.1]) HY.out.2 (by unfold maxLen; omega) (by omega) hbase ?_)
      intro v' w' k1 k2 k3
      obtain ⟨a', c', rfl⟩ := own_shape k1
      have HK : Hid (InsPost 34 2 base (xs ++ ys) (i + 1) (.slice a i c) w (.returned (.slice a' (i + 1) c')) w') := ⟨a', c', rfl, k1, k2, by
        rcases k3 with e | e
        · exact .inl e
        · exact .inr ⟨_, e, Nat.le_refl _⟩⟩
      clear k1 k2 k3
      go_wp2
      go_ret
      rw [HE.out]
      exact HK.out
  have hlt : i < n := by omega
  obtain ⟨g, cap, cur, e, hbg, hg, hnc', hcap, hcs, htk⟩ : ∃ g cap cur, Value.slice a n c = .slice (some ⟨g, 0, none⟩) n cap ∧ base ≤ g ∧ w.heap[g]? = some (.cells cur 34 (0, 0)) ∧ n ≤ cap ∧ cap ≤ maxLen ∧ cur.size = cap * 2 ∧ cur.toList.take (n * 2) = xs := by
    rcases hO.2 with ⟨_, h0⟩ | h
    · omega
    · first | exact h | simpa only [Nat.mul_one] using h
  cases e
  have hgb : Bk w g 34 cur.toList := by show _ = _; simpa using hg
  have hgv : vb ≠ g := fun e => hne (by rw [e]; rfl)
  have hcl : cur.toList.length = c * 2 := by simpa using hcs
  clear hO hg hcs hne hcap hnc'
  generalize cur.toList = cl at *
  subst htk
  clear cur
  have hci : ¬ c = i := by omega
  have hci1 : ¬ c = i + 1 ∨ c = i + 1 := by omega
  have hi' : ¬ ((i : Int) = (n : Int)) := by omega
  have hii : (i : Int) ≤ (n : Int) := by omega
  have hxl : (cl.take (n * 2)).length = n * 2 := by rw [List.length_take]; omega
  have hdl : ((cl.take (n * 2)).drop (i * 2)).length = (n - i) * 2 := by rw [List.length_drop, hxl] <;> omega
  have hsrc : ∀ j u, (cl.take (n * 2))[j]? = some u → w.cell? ⟨g, j, none⟩ = some u := fun j u hu => by
    refine hgb.cell ?_
    rw [List.getElem?_take] at hu
    split at hu
    · exact hu
    · cases hu
  have hsa : w.shape? vb = some (34, 2) := by
    have h := HB.out
    have h' : w.heap[vb]? = some (.cells ys.toArray 34 (0, 0)) := h
    simp [World.shape?, h', HY.out.1]
  have hsb : w.shape? g = some (34, c * 2) := by
    have h' : w.heap[g]? = some (.cells cl.toArray 34 (0, 0)) := hgb
    simp [World.shape?, h', hcl]
  by_cases hroom : n + 1 ≤ c
  · have hr' : ¬ (c : Int) < (n : Int) + 1 := by omega
    have hmn1 : Nat.min (n + 1 - i) (n - i) = n - i := by simp only [Nat.min_def]; split <;> omega
    have hcp1 : ∀ ty dc sc, (Builtin.copy_ #[68, 68] ty #[.slice (some ⟨g, (i + 1) * 2, none⟩) (n - i) dc, .slice (some ⟨g, i * 2, none⟩) (n + 1 - i) sc]).run Try.prog w.drew = .ok (goInt (Nat.min (n + 1 - i) (n - i))) (w.drew.setRow g (cl.take ((i + 1) * 2) ++ (cl.take (n * 2)).drop (i * 2) ++ cl.drop ((i + 1) * 2 + ((cl.take (n * 2)).drop (i * 2)).length)).toArray) := fun ty dc sc =>
      run_copy_rowK w.drew _ _ ty 34 g ((i + 1) * 2) (n - i) dc ⟨g, i * 2, none⟩ (n + 1 - i) sc 2 cl 34 _ Try.underlying68 hsz hgb (by rw [hdl, hmn1] <;> omega)
        (fun j u hu => by rw [Addr.add_lit]; exact hsrc _ u (by rwa [List.getElem?_drop] at hu)) (by rw [hdl]; omega) (fun u hu => HX.out u (List.mem_of_mem_drop hu))
    have hg1 := (hgb.below (below_drew w)).setRow (cl.take ((i + 1) * 2) ++ (cl.take (n * 2)).drop (i * 2) ++ cl.drop ((i + 1) * 2 + ((cl.take (n * 2)).drop (i * 2)).length))
    have ho1 : Only (fun y => some g = some y) w (w.drew.setRow g (cl.take ((i + 1) * 2) ++ (cl.take (n * 2)).drop (i * 2) ++ cl.drop ((i + 1) * 2 + ((cl.take (n * 2)).drop (i * 2)).length)).toArray) := (only_of_below (below_drew w) _).trans (only_setRow (R := fun y => some g = some y) rfl _)
    have hil := ins_list cl ys i n 2 (by rw [hcl]; omega) hi HY.out.1
    have hcl1 : (cl.take ((i + 1) * 2) ++ (cl.take (n * 2)).drop (i * 2) ++ cl.drop ((i + 1) * 2 + ((cl.take (n * 2)).drop (i * 2)).length)).length = c * 2 := by
      simp only [List.length_append, List.length_take, List.length_drop, hcl]; omega
    simp only at hil
    generalize cl.take ((i + 1) * 2) ++ (cl.take (n * 2)).drop (i * 2) ++ cl.drop ((i + 1) * 2 + ((cl.take (n * 2)).drop (i * 2)).length) = c1 at *
    generalize w.drew.setRow g c1.toArray = W1 at *
    go_enter Try.func87, Try.ntmps87
    have hov : ∀ lb cb, (callFunc 97 #[.slice (some ⟨vb, 0, none⟩) 1 1, .slice (some ⟨g, (i + 1) * 2, none⟩) lb cb]).run Try.prog w = .ok (.value (.bool false)) w := fun lb cb => by
      rw [run_callFunc_extern Try.func97 (by kernel_rfl) (by kernel_rfl) (by kernel_rfl) (e := Extern.SlicesOverlaps.overlaps #[23, 23] #[4]) (by kernel_rfl),
        Lib.run_overlaps_apart w 23 4 34 Try.underlying23 2 (fun w => by simp [Go.sizeOf, typeInfo, hti, hts]) ⟨vb, 0, none⟩ ⟨g, (i + 1) * 2, none⟩ 1 1 lb cb hgv 34 34 2 (c * 2) hsa hsb (by omega) (HB.out.free _) (HB.out.free _)]
      rfl
    have hcc : ¬ c = i + 1 := by omega
    have hw1 : IntKind.i64.wrap ((i : Int) + 1) = (i : Int) + 1 := by rw [IntKind.wrap_i64]; omega
    have hb1 : (0 : Int) ≤ (i : Int) + 1 := by omega
    have hb2 : (i : Int) + 1 ≤ (n : Int) + 1 := by omega
    have hb3 : (i : Int) ≤ (n : Int) + 1 := by omega
    have htn : ((i : Int) + 1).toNat = i + 1 := by omega
    have hnn : n + 1 - (i + 1) = n - i := by omega
    go_wp2_with (simp only [hov])
    go_region_law (refine step_copy_run rfl _ _ 68 68 rfl _ _ (by simp [Act.eval, Act.put]) (by simp [Act.eval, Act.put]) (hcp1 _ _ _) ?_)
    have hcp2 : ∀ ty, (Builtin.copy_ #[68, 23] ty #[.slice (some ⟨g, i * 2, none⟩) (n + 1 - i) (c - i), .slice (some ⟨vb, 0, none⟩) 1 1]).run Try.prog W1 = .ok (goInt (Nat.min 1 (n + 1 - i))) (W1.setRow g (c1.take (i * 2) ++ ys ++ c1.drop (i * 2 + ys.length)).toArray) := fun ty =>
      run_copy_rowK W1 _ _ ty 34 g (i * 2) (n + 1 - i) (c - i) ⟨vb, 0, none⟩ 1 1 2 c1 34 ys Try.underlying68 hsz hg1 (by rw [HY.out.1]; have : Nat.min 1 (n + 1 - i) = 1 := (by simp only [Nat.min_def]; split <;> omega); rw [this])
        (fun j u hu => by rw [Addr.add_lit, Nat.zero_add]; exact ((HB.out.to ho1 (by simpa using hgv.symm)).cell hu)) (by rw [HY.out.1, hcl1]; omega) HY.out.2
    have HF : Hid (InsPost 34 2 base ((cl.take (n * 2)).take (i * 2) ++ ys ++ (cl.take (n * 2)).drop (i * 2)) (n + 1) (.slice (some ⟨g, 0, none⟩) n c) w (.returned (.slice (some ⟨g, 0, none⟩) (n + 1) c)) (W1.setRow g (c1.take (i * 2) ++ ys ++ c1.drop (i * 2 + ys.length)).toArray)) := by
      refine ⟨_, _, rfl, ⟨?_, .inr ⟨g, c, (c1.take (i * 2) ++ ys ++ c1.drop (i * 2 + ys.length)).toArray, rfl, hbg, hg1.setRow _, hroom, by unfold maxLen; omega, ?_, by first | exact hil | simpa only [Nat.mul_one] using hil⟩⟩, grown_only (ho1.trans (only_setRow (R := fun y => some g = some y) rfl _)), .inl rfl⟩
      · simp only [List.length_append, List.length_take, List.length_drop, HY.out.1, hcl]; omega
      · simp only [List.size_toArray, List.length_append, List.length_take, List.length_drop, HY.out.1, hcl1]; omega
    generalize W1.setRow g (c1.take (i * 2) ++ ys ++ c1.drop (i * 2 + ys.length)).toArray = W2 at *
    clear hil hcl1 hg1 ho1 hcp1 hov
    go_wp2_with (at_builtin; refine wpList_copy_run _ rfl _ _ 68 23 rfl _ _ rfl rfl (hcp2 _) ?_)
    go_ret
    exact HF.out
  · have hr' : (c : Int) < (n : Int) + 1 := by omega
    have hkk : (n : Int) + 1 - (i : Int) = ((n + 1 - i : Nat) : Int) := by omega
    have hik : i + (n + 1 - i) = n + 1 := by omega
    have hold : (Builtin.firstCells ti.size i (.slice (some ⟨g, 0, none⟩) i c)).run Try.prog w.drew = .ok ((cl.take (n * 2)).take (i * 2)).toArray w.drew := by
      rw [hts]
      refine run_firstCells_some w.drew 2 i ⟨g, 0, none⟩ i c _ (by rw [List.length_take, hxl]; omega) (fun j u hu => ?_)
      rw [Addr.add_lit, Nat.zero_add]
      rw [List.getElem?_take] at hu
      split at hu
      · exact hsrc j u hu
      · cases hu
    have hrz : ∀ ty, (Builtin.append_ #[68, 3] ty #[.slice (some ⟨g, 0, none⟩) i c, .int .i64 ((n : Int) + 1 - (i : Int))]).run Try.prog w =
        .ok (.slice (some ⟨w.heap.size, 0, none⟩) (n + 1) (grownCap w (n + 1) c 34)) (w.drew.alloc (.cells (((cl.take (n * 2)).take (i * 2)).toArray ++ Builtin.zeroCells (Value.agg #[.string ⟨#[]⟩, .string ⟨#[]⟩]).cells (n + 1 - i) ++ Builtin.zeroCells (Value.agg #[.string ⟨#[]⟩, .string ⟨#[]⟩]).cells (grownCap w (n + 1) c 34 - (n + 1))) 34)) := fun ty => by
      have h := Lib.run_append_grow_zeros w 68 3 ty 34 ti _ .i64 .i64 Try.underlying68 Try.underlying3 hti htz (some ⟨g, 0, none⟩) i c ((cl.take (n * 2)).take (i * 2)) hold (n + 1 - i) (by omega) (by omega) (by omega) (by omega) (by rw [htb]; omega) (by rw [htb, hik]; exact growslice_fits (by omega) (by omega))
      rw [hik] at h
      rw [hkk]
      exact h
    have hGn : n + 1 ≤ grownCap w (n + 1) c 34 := grownCap_ge w _ _ _
    have hG63 : grownCap w (n + 1) c 34 ≤ 9223372036854775807 := by
      have := grownCap_le_maxLen w (n + 1) c 34 (by unfold maxLen; omega)
      unfold maxLen at this
      omega
    generalize grownCap w (n + 1) c 34 = G at *
    obtain ⟨Z, hZ⟩ : ∃ Z : List Value, Z = (Builtin.zeroCells (Value.agg #[.string ⟨#[]⟩, .string ⟨#[]⟩]).cells (n + 1 - i)).toList ++ (Builtin.zeroCells (Value.agg #[.string ⟨#[]⟩, .string ⟨#[]⟩]).cells (G - (n + 1))).toList := ⟨_, rfl⟩
    have hZl : Z.length = (n + 1 - i) * 2 + (G - (n + 1)) * 2 := by rw [hZ]; simp [Builtin.zeroCells, Value.cells]
    have hK0 : Bk (w.drew.alloc (.cells (((cl.take (n * 2)).take (i * 2)).toArray ++ Builtin.zeroCells (Value.agg #[.string ⟨#[]⟩, .string ⟨#[]⟩]).cells (n + 1 - i) ++ Builtin.zeroCells (Value.agg #[.string ⟨#[]⟩, .string ⟨#[]⟩]).cells (G - (n + 1))) 34)) w.heap.size 34 ((cl.take (n * 2)).take (i * 2) ++ Z) := by
      have := Bk.new w.drew 34 ((cl.take (n * 2)).take (i * 2) ++ Z)
      have e : ((cl.take (n * 2)).take (i * 2) ++ Z).toArray = ((cl.take (n * 2)).take (i * 2)).toArray ++ Builtin.zeroCells (Value.agg #[.string ⟨#[]⟩, .string ⟨#[]⟩]).cells (n + 1 - i) ++ Builtin.zeroCells (Value.agg #[.string ⟨#[]⟩, .string ⟨#[]⟩]).cells (G - (n + 1)) := by
        rw [hZ]
        apply Array.ext'
        simp
      rw [e] at this
      exact this
    have hb0 : Below w.heap.size w (w.drew.alloc (.cells (((cl.take (n * 2)).take (i * 2)).toArray ++ Builtin.zeroCells (Value.agg #[.string ⟨#[]⟩, .string ⟨#[]⟩]).cells (n + 1 - i) ++ Builtin.zeroCells (Value.agg #[.string ⟨#[]⟩, .string ⟨#[]⟩]).cells (G - (n + 1))) 34)) := Below.then' (below_drew w) (below_new (Below.refl _ _)) (Nat.le_refl _)
    generalize w.drew.alloc (.cells (((cl.take (n * 2)).take (i * 2)).toArray ++ Builtin.zeroCells (Value.agg #[.string ⟨#[]⟩, .string ⟨#[]⟩]).cells (n + 1 - i) ++ Builtin.zeroCells (Value.agg #[.string ⟨#[]⟩, .string ⟨#[]⟩]).cells (G - (n + 1))) 34) = W0 at *
    clear hZ hold
    have hAl : ((cl.take (n * 2)).take (i * 2)).length = i * 2 := by rw [List.length_take, hxl]; omega
    have hEA : ((cl.take (n * 2)).take (i * 2) ++ Z).take (i * 2) ++ ys ++ ((cl.take (n * 2)).take (i * 2) ++ Z).drop (i * 2 + ys.length) = (cl.take (n * 2)).take (i * 2) ++ ys ++ Z.drop 2 := by
      rw [take_at hAl, drop_at hAl, HY.out.1]
    have hcpA : ∀ ty, (Builtin.copy_ #[68, 23] ty #[.slice (some ⟨w.heap.size, i * 2, none⟩) (n + 1 - i) (G - i), .slice (some ⟨vb, 0, none⟩) 1 1]).run Try.prog W0 = .ok (goInt (Nat.min 1 (n + 1 - i))) (W0.setRow w.heap.size ((cl.take (n * 2)).take (i * 2) ++ ys ++ Z.drop 2).toArray) := fun ty => by
      rw [← hEA]
      exact run_copy_rowK W0 _ _ ty 34 w.heap.size (i * 2) (n + 1 - i) (G - i) ⟨vb, 0, none⟩ 1 1 2 _ 34 ys Try.underlying68 hsz hK0 (by rw [HY.out.1]; have : Nat.min 1 (n + 1 - i) = 1 := (by simp only [Nat.min_def]; split <;> omega); rw [this])
        (fun j u hu => by rw [Addr.add_lit, Nat.zero_add]; exact ((HB.out.below hb0).cell hu)) (by rw [HY.out.1, List.length_append, hAl, hZl]; omega) HY.out.2
    have hK1 := hK0.setRow ((cl.take (n * 2)).take (i * 2) ++ ys ++ Z.drop 2)
    have hb1 : Below w.heap.size w (W0.setRow w.heap.size ((cl.take (n * 2)).take (i * 2) ++ ys ++ Z.drop 2).toArray) := hb0.trans ((only_setRow (R := fun y => y = w.heap.size) rfl _).below hb0.size (fun b h1 h2 => by omega))
    generalize W0.setRow w.heap.size ((cl.take (n * 2)).take (i * 2) ++ ys ++ Z.drop 2).toArray = W1 at *
    have hEB : ((cl.take (n * 2)).take (i * 2) ++ ys ++ Z.drop 2).take ((i + 1) * 2) ++ (cl.take (n * 2)).drop (i * 2) ++ ((cl.take (n * 2)).take (i * 2) ++ ys ++ Z.drop 2).drop ((i + 1) * 2 + ((cl.take (n * 2)).drop (i * 2)).length) = (cl.take (n * 2)).take (i * 2) ++ ys ++ (cl.take (n * 2)).drop (i * 2) ++ Z.drop (2 + (n - i) * 2) := by
      have hl2 : ((cl.take (n * 2)).take (i * 2) ++ ys).length = (i + 1) * 2 := by rw [List.length_append, hAl, HY.out.1] <;> omega
      rw [take_at hl2, drop_at hl2, List.drop_drop, hdl]
    have hcpB : ∀ ty, (Builtin.copy_ #[68, 68] ty #[.slice (some ⟨w.heap.size, (i + 1) * 2, none⟩) (n - i) (G - (i + 1)), .slice (some ⟨g, i * 2, none⟩) (n - i) (c - i)]).run Try.prog W1.drew = .ok (goInt (Nat.min (n - i) (n - i))) (W1.drew.setRow w.heap.size ((cl.take (n * 2)).take (i * 2) ++ ys ++ (cl.take (n * 2)).drop (i * 2) ++ Z.drop (2 + (n - i) * 2)).toArray) := fun ty => by
      rw [← hEB]
      exact run_copy_rowK W1.drew _ _ ty 34 w.heap.size ((i + 1) * 2) (n - i) (G - (i + 1)) ⟨g, i * 2, none⟩ (n - i) (c - i) 2 _ 34 _ Try.underlying68 hsz (hK1.below (below_drew _)) (by rw [hdl] <;> simp)
        (fun j u hu => by rw [Addr.add_lit]; exact bk_take ((hgb.below hb1).below (below_drew _)) (by rwa [List.getElem?_drop] at hu))
        (by simp only [List.length_append, List.length_drop, hAl, HY.out.1, hZl, hxl]; omega) (fun u hu => HX.out u (List.mem_of_mem_drop hu))
    have HF : Hid (InsPost 34 2 base ((cl.take (n * 2)).take (i * 2) ++ ys ++ (cl.take (n * 2)).drop (i * 2)) (n + 1) (.slice (some ⟨g, 0, none⟩) n c) w (.returned (.slice (some ⟨w.heap.size, 0, none⟩) (n + 1) G)) (W1.drew.setRow w.heap.size ((cl.take (n * 2)).take (i * 2) ++ ys ++ (cl.take (n * 2)).drop (i * 2) ++ Z.drop (2 + (n - i) * 2)).toArray)) := by
      refine ⟨_, _, rfl, ⟨?_, .inr ⟨w.heap.size, G, _, rfl, hbase, (hK1.below (below_drew _)).setRow _, hGn, by unfold maxLen; omega, ?_, ?_⟩⟩, ?_, .inr ⟨_, rfl, Nat.le_refl _⟩⟩
      · simp only [List.length_append, hAl, HY.out.1, hdl]; omega
      · simp only [List.size_toArray, List.length_append, List.length_drop, hAl, HY.out.1, hZl, hxl]; omega
      · try rw [Nat.mul_one (n + 1)]
        show ((cl.take (n * 2)).take (i * 2) ++ ys ++ (cl.take (n * 2)).drop (i * 2) ++ Z.drop (2 + (n - i) * 2)).take ((n + 1) * 2) = _
        have hl3 : ((cl.take (n * 2)).take (i * 2) ++ ys ++ (cl.take (n * 2)).drop (i * 2)).length = (n + 1) * 2 := by simp only [List.length_append, hAl, HY.out.1, hdl]; omega
        rw [List.take_append_of_le_length (by omega), List.take_of_length_le (by omega)]
      · have hb2 := hb1.trans (((only_of_below (below_drew W1) _).trans (only_setRow (R := fun y => y = w.heap.size) rfl ((cl.take (n * 2)).take (i * 2) ++ ys ++ (cl.take (n * 2)).drop (i * 2) ++ Z.drop (2 + (n - i) * 2)).toArray)).below hb1.size (fun b h1 h2 => by omega))
        exact ⟨hb2.os, hb2.tape, hb2.output, hb2.size, fun k hk _ => hb2.block k hk⟩
    generalize W1.drew.setRow w.heap.size ((cl.take (n * 2)).take (i * 2) ++ ys ++ (cl.take (n * 2)).drop (i * 2) ++ Z.drop (2 + (n - i) * 2)).toArray = W2 at *
    have hGi : ¬ G = i := by omega
    have hGi1 : ¬ G = i + 1 := by omega
    have hw1 : IntKind.i64.wrap ((i : Int) + 1) = (i : Int) + 1 := by rw [IntKind.wrap_i64]; omega
    have hbb1 : (0 : Int) ≤ (i : Int) + 1 := by omega
    have hbb2 : (i : Int) + 1 ≤ (n : Int) + 1 := by omega
    have hbb3 : (i : Int) ≤ (n : Int) + 1 := by omega
    have htn : ((i : Int) + 1).toNat = i + 1 := by omega
    have hnn : n + 1 - (i + 1) = n - i := by omega
    clear hEA hEB hK0 hK1 hb0 hb1 hkk hik hsrc
    go_enter Try.func87, Try.ntmps87
    go_wp2_with (first
      | (at_builtin; refine Lib.wpList_append_run _ rfl _ _ _ _ rfl _ _ rfl rfl _ _ (hrz _) ?_)
      | (at_builtin; refine wpList_copy_run _ rfl _ _ 68 23 rfl _ _ rfl rfl (hcpA _) ?_))
    go_region_law (refine step_copy_run rfl _ _ 68 68 rfl _ _ (by simp [Act.eval, Act.put]) (by simp [Act.eval, Act.put]) (hcpB _) ?_)
    go_wp2
    go_ret
    exact HF.out
end Go.Proofs.Ytjbamfgfgbmieaa
/-
  The program's sorted list: slices.Delete of one pair.
-/
namespace Go.Proofs.Ytjbamfgfgbmieaa
open Go.RowKit
theorem run_clearS (ty : TypeId) (w : World) (b o c : Nat) (hc : ∀ j, j < 2 → (w.cell? ⟨b, o + j, none⟩).isSome = true) (hf : ∀ j, j < 2 → w.frozen? ⟨b, o + j, none⟩ = false) :
    (Builtin.clear_ #[68] ty #[.slice (some ⟨b, o, none⟩) 1 c]).run Try.prog w = .ok (.tuple #[]) (w.setCells b o [.string ⟨#[]⟩, .string ⟨#[]⟩]) := by
  have hv : (zeroValue 34).run Try.prog w = .ok (.agg #[.string ⟨#[]⟩, .string ⟨#[]⟩]) w := by go_simp
  have hst := run_storeCells_cells (P := Try.prog) b o [.string ⟨#[]⟩, .string ⟨#[]⟩] 0 w (by simpa using hc) (by simpa using hf) (by intro v hv'; simp at hv'; subst hv'; rfl)
  simp only [Nat.add_zero] at hst
  have hzc : (Builtin.zeroCells (Value.cells (.agg #[.string ⟨#[]⟩, .string ⟨#[]⟩])) 1).toList = [.string ⟨#[]⟩, .string ⟨#[]⟩] := by
    simp [Builtin.zeroCells, Value.cells]
    try rfl
  simp [Builtin.clear_, run_underlying Try.underlying68, hv, hzc, hst]
set_option maxHeartbeats 2000000 in
set_option maxRecDepth 20000 in
theorem deleteS_any (v : Value) (n i base : Nat) (xs : List Value) (w : World) (hO : w.ownsRow base 34 2 v (n + 1) xs) (hi : i ≤ n) (hn : n ≤ 1048576) (h1x : ∀ u ∈ xs, u.oneCell' = true) :
    Calls Try.prog 88 #[v, .int .i64 (i : Int), .int .i64 ((i : Int) + 1)] w fun e w' => DelPost 34 2 base (xs.take (i * 2) ++ xs.drop ((i + 1) * 2)) n v w e w' := by
  obtain ⟨ti, hti, htz, hts, htb⟩ := info_of infoPairI
  obtain ⟨hxl, hO2⟩ := hO
  rcases hO2 with ⟨_, h0⟩ | ⟨g, c, cur, rfl, hg0, hg, hnc, hcm, hcs, htk⟩
  · omega
  have hB : Bk w g 34 cur.toList := by show _ = _; simpa using hg
  have hcl : cur.toList.length = c * 2 := by simpa using hcs
  generalize cur.toList = cl at *
  unfold maxLen at hcm
  have HDL : Hid ((setL (setL cl (i * 2) (xs.drop ((i + 1) * 2))) (n * 2) [.string ⟨#[]⟩, .string ⟨#[]⟩]).take (n * 2) = xs.take (i * 2) ++ xs.drop ((i + 1) * 2)) := by
    have := del_list cl xs [.string ⟨#[]⟩, .string ⟨#[]⟩] i (n + 1) 2 (by omega) (by omega) htk
    show _ = _
    simpa using this
  have hxd : (xs.drop ((i + 1) * 2)).length = (n - i) * 2 := by rw [List.length_drop, hxl]; omega
  have KB := hid (hB.below (below_drew w))
  have K2 := hid (bk_setL (xs.drop ((i + 1) * 2)) (i * 2) _ _ KB.out)
  have K3 := hid (bk_setL [.string ⟨#[]⟩, .string ⟨#[]⟩] (n * 2) _ _ K2.out)
  have HXD := hid hxd
  have HXL := hid hxl
  have H1X := hid h1x
  have hi1 : (i : Int) + 1 ≤ (n : Int) + 1 := by omega
  have hi2 : (0 : Int) ≤ (i : Int) := by omega
  have hi3 : (i : Int) ≤ (c : Int) := by omega
  have hi4 : (n : Int) + 1 ≤ (c : Int) := by omega
  have hi5 : (i : Int) + 1 ≤ (c : Int) := by omega
  have hi6 : (i : Int) ≤ 1048576 := by omega
  have hi7 : ¬ (i : Int) = (i : Int) + 1 := by omega
  have hi8 : (n : Int) ≤ 1048576 := by omega
  have hi9 : (0 : Int) ≤ (i : Int) + 1 := by omega
  have hia : ((i + (n - i) : Nat) : Int) = (n : Int) := by omega
  have HSP : Hid (∀ j, j < (xs.drop ((i + 1) * 2)).length → (w.drew.cell? ⟨g, 0 + i * 2 + j, none⟩).isSome = true ∧ w.drew.frozen? ⟨g, 0 + i * 2 + j, none⟩ = false) := by
    intro j hj
    rw [hxd] at hj
    have hlt : 0 + i * 2 + j < cl.length := by rw [hcl]; omega
    obtain ⟨u, hu⟩ : ∃ u, cl[0 + i * 2 + j]? = some u := ⟨cl[0 + i * 2 + j], by simp⟩
    exact ⟨by rw [KB.out.cell hu]; rfl, KB.out.free _⟩
  have HSC : Hid (∀ j u, (xs.drop ((i + 1) * 2))[j]? = some u → w.drew.cell? ((⟨g, (i + 1) * 2, none⟩ : Addr).add j) = some u) := by
    intro j u hu
    rw [Addr.add_lit]
    rw [List.getElem?_drop] at hu
    refine KB.out.cell ?_
    rw [← htk, List.getElem?_take] at hu
    split at hu
    · exact hu
    · cases hu
  have hclr := run_clearS 0 (w.drew.setCells g (i * 2) (xs.drop ((i + 1) * 2))) g (n * 2) (c - n) (fun j hj => by
    have hlt : n * 2 + j < (setL cl (i * 2) (xs.drop ((i + 1) * 2))).length := by rw [setL_length, hcl]; omega
    rw [K2.out.cell (List.getElem?_eq_getElem hlt)]; rfl) (fun j hj => K2.out.free _)
  have HFIN : Hid (DelPost 34 2 base (xs.take (i * 2) ++ xs.drop ((i + 1) * 2)) n (.slice (some ⟨g, 0, none⟩) (n + 1) c) w (.returned (.slice (some ⟨g, 0, none⟩) n c)) ((w.drew.setCells g (i * 2) (xs.drop ((i + 1) * 2))).setCells g (n * 2) [.string ⟨#[]⟩, .string ⟨#[]⟩])) := by
    refine ⟨g, c, rfl, rfl, ⟨?_, .inr ⟨g, c, (setL (setL cl (i * 2) (xs.drop ((i + 1) * 2))) (n * 2) [.string ⟨#[]⟩, .string ⟨#[]⟩]).toArray, rfl, hg0, K3.out, by omega, by unfold maxLen; omega, ?_, ?_⟩⟩, ((only_of_below (below_drew w) _).trans (only_setL (R := fun y => y = g) rfl _ _ _)).trans (only_setL (R := fun y => y = g) rfl _ _ _)⟩
    · rw [List.length_append, List.length_take, hxd, hxl]; omega
    · simp only [List.size_toArray]; rw [setL_length, setL_length, hcl]
    · simpa using HDL.out
  clear hB hxl hxd htk hcl h1x hg0 hg hcs
  by_cases hcc : c = i + 1
  · have hni : n = i := by omega
    subst hcc hni
    have hz : xs.drop ((n + 1) * 2) = [] := List.drop_eq_nil_of_le (by rw [HXL.out]; omega)
    rw [hz] at HSP HSC HXD HFIN hclr
    have HZ := hid hz
    clear hz
    have hj1 : (n : Int) ≤ (n : Int) + 1 := by omega
    have e0 : w.drew.setCells g (n * 2) [] = w.drew := rfl
    rw [e0] at hclr HFIN
    rw [show n + 1 - n = 1 by omega] at hclr
    go_enter Try.func88, Try.ntmps88
    go_wp2_with fail
    go_region_law (refine step_append_room rfl _ _ _ rfl 34 ti 2 Try.underlying68 hti hts g 0 n (n + 1) rfl ⟨g, 0, none⟩ 0 0 [] rfl rfl (fun j u hu => by simp at hu) (fun u hu => by simp at hu) (by omega) (fun j hj => by simp at hj) ?_)
    all_goals (go_wp2)
    all_goals go_ret
    all_goals (rw [HZ.out]; exact HFIN.out)
  · go_enter Try.func88, Try.ntmps88
    go_wp2_with fail
    go_region_law (refine step_append_room rfl _ _ _ rfl 34 ti 2 Try.underlying68 hti hts g 0 i c rfl ⟨g, (i + 1) * 2, none⟩ (n - i) (c - (i + 1)) (xs.drop ((i + 1) * 2)) rfl HXD.out HSC.out (fun u hu => H1X.out u (List.mem_of_mem_drop hu)) (by omega) HSP.out ?_)
    all_goals (go_wp2)
    all_goals go_ret
    all_goals exact HFIN.out
end Go.Proofs.Ytjbamfgfgbmieaa
/-
  The program's sorted list in a box: put and drop.
-/
namespace Go.Proofs.Ytjbamfgfgbmieaa
open Go.RowKit
theorem kl3 {u v : World} {a0 a1 a2 : Addr} {x0 x1 x2 : Value} (h : KL u v [(a0, x0), (a1, x1), (a2, x2)]) : v.cell? a0 = some x0 ∧ v.cell? a1 = some x1 ∧ v.cell? a2 = some x2 ∧ KL u v [(a0, x0), (a1, x1), (a2, x2)] := ⟨h.at (by simp), h.at (by simp), h.at (by simp), h⟩
theorem kl3c {u v v' : World} {a0 a1 a2 : Addr} {x0 x1 x2 : Value} (k : Below v.heap.size v v') (h : v.cell? a0 = some x0 ∧ v.cell? a1 = some x1 ∧ v.cell? a2 = some x2 ∧ KL u v [(a0, x0), (a1, x1), (a2, x2)]) : v'.cell? a0 = some x0 ∧ v'.cell? a1 = some x1 ∧ v'.cell? a2 = some x2 ∧ KL u v' [(a0, x0), (a1, x1), (a2, x2)] := kl3 (KL.call h.2.2.2 k)
theorem kl3_bel {u v : World} {a0 a1 a2 : Addr} {x0 x1 x2 : Value} (h : v.cell? a0 = some x0 ∧ v.cell? a1 = some x1 ∧ v.cell? a2 = some x2 ∧ KL u v [(a0, x0), (a1, x1), (a2, x2)]) : Below u.heap.size u v := KL.bel h.2.2.2
theorem kl3_0 {u : World} {a0 a1 a2 : Addr} {x0 x1 x2 : Value} (h0 : u.cell? a0 = some x0) (h1 : u.cell? a1 = some x1) (h2 : u.cell? a2 = some x2) : KL u u [(a0, x0), (a1, x1), (a2, x2)] := ⟨fun p hp => by
    simp only [List.mem_cons, List.not_mem_nil, or_false] at hp
    rcases hp with rfl | rfl | rfl <;> assumption, Below.refl _ _⟩
/-- Box g holds a list l of one's own. -/
structure SB (w : World) (base g : Nat) (v : Value) (l : List PB) : Prop where
  bk : Bk w g 68 [v]
  own : Ow w base v l
  ne : v.ownBlock ≠ some g
  le : base ≤ g
theorem SB.below {w w' : World} {base g : Nat} {v : Value} {l : List PB} (h : SB w base g v l) (hb : Below w.heap.size w w') : SB w' base g v l := ⟨h.bk.below hb, h.own.kept hb, h.ne, h.le⟩
/-- What a list in a box keeps: nothing turns but the box and the list's own row, and a new row is new memory. -/
structure SbK (g : Nat) (o0 : Option Nat) (w : World) (v' : Value) (w' : World) : Prop where
  only : Only (fun z => z = g ∨ o0 = some z) w w'
  own : v'.ownBlock = o0 ∨ ∃ q, v'.ownBlock = some q ∧ w.heap.size ≤ q
def SbPost (base g : Nat) (o0 : Option Nat) (l : List PB) (w : World) (e : Ending) (w' : World) : Prop := e = .returned (.tuple #[]) ∧ (∃ v', SB w' base g v' l ∧ SbK g o0 w v' w') ∧ Below base w w'
set_option maxHeartbeats 4000000 in
set_option maxRecDepth 20000 in
theorem sput_any (base g : Nat) (v0 : Value) (ps : List PB) (k v : ByteArray) (w : World) (h : SB w base g v0 ps) (hbase : base ≤ w.heap.size) (ha : Asc ps) (hs : ps.length ≤ 1048576) :
    Calls Try.prog 68 #[.pointer (some ⟨g, 0, none⟩), .agg #[.string k, .string v]] w fun e w' => SbPost base g v0.ownBlock (insP ps (k, v)) w e w' := by
  have hb := below_new (o := .cells #[.string k, .string v] 34) (w := w) (Below.refl _ _)
  have HB0 := hid hb
  have KP := hid (Bk.new w 34 [.string k, .string v])
  have HA := hid ha
  obtain ⟨a, n, c, rfl, hn⟩ := h.own.shape'
  have HN : Hid (n = ps.length) := hn
  have hnn : n ≤ 1048576 := by rw [HN.out]; exact hs
  have S0 := hid (h.below hb)
  have HS0 := hid (Nat.le_trans hbase hb.size)
  have HSW := hid hbase
  have m1 := method_pair k v
  clear hb h ha hs hn hbase
  have C1 : Hid (∀ w' : World, SB w' base g (.slice a n c) ps → Calls Try.prog 86 #[.slice a n c, .string k] w' fun e w'' => e = .returned (.tuple #[.int .i64 (pos ps k : Nat), .bool (there ps k)]) ∧ Below w'.heap.size w' w'') :=
    fun w' hS => placeOf_any (fun _ => True) a n c ps k w' (hS.own.pr (fun _ _ _ _ => trivial)) HA.out hnn
  have c0 := S0.out.bk.cell (j := 0) rfl
  have p0 := KP.out.cell (j := 0) rfl
  have p1 := KP.out.cell (j := 1) rfl
  have T0 := hid (kl3_0 c0 p0 p1)
  go_enter Try.func68, Try.ntmps68
  go_wp2_with fail
  generalize hU : w.alloc (.cells #[.string k, .string v] 34) = U at *
  clear hU
  go_region_held3 (fun u => u.cell? ⟨g, 0, none⟩ = some (.slice a n c) ∧ u.cell? ⟨w.heap.size, 0, none⟩ = some (.string k) ∧ u.cell? ⟨w.heap.size, 1, none⟩ = some (.string v) ∧ KL U u [(⟨g, 0, none⟩, .slice a n c), (⟨w.heap.size, 0, none⟩, .string k), (⟨w.heap.size, 1, none⟩, .string v)])
    (first | assumption | exact kl3 (T0.out.call (below_drew _)) | exact kl3c hbC (by assumption))
    (first
      | (go_at_call 121; refine (pkey_any k v _).mono ?_; rintro e w' ⟨rfl, hbC⟩)
      | (go_at_call 86; refine (C1.out _ (S0.out.below (kl3_bel (by assumption)))).mono ?_; rintro e w' ⟨rfl, hbC⟩))
  rename_i hS
  have hb := kl3_bel hS
  have SB1 := hid (S0.out.below hb)
  have KP1 := hid (KP.out.below hb)
  have HB1 := hid (HB0.out.trans (hb.mono HB0.out.size))
  have HS1 := hid (Nat.le_trans HS0.out hb.size)
  have HW1 := hid (Nat.le_trans HB0.out.size hb.size)
  clear hb hS T0 C1 c0 p0 p1 m1 S0 KP HB0 HS0
  clear hbC
  have c0 := SB1.out.bk.cell (j := 0) rfl
  have f0 := SB1.out.bk.free 0
  have p0 := KP1.out.cell (j := 0) rfl
  have p1 := KP1.out.cell (j := 1) rfl
  cases hth : there ps k with
  | true =>
    have hlt := (of_decide_eq_true hth).1
    have HI : Hid (insP ps (k, v) = ps.set (pos ps k) (k, v)) := by show _ = _; rw [insP, if_pos hth]
    obtain ⟨y, cap, cur, e, hyb, hg, hnc, hcm, hcs, htk⟩ : ∃ y cap cur, Value.slice a n c = .slice (some ⟨y, 0, none⟩) ps.length cap ∧ base ≤ y ∧ w'.heap[y]? = some (.cells cur 34 (0, 0)) ∧ ps.length ≤ cap ∧ cap ≤ maxLen ∧ cur.size = cap * 2 ∧ cur.toList.take (ps.length * 2) = pcs ps := by
      rcases SB1.out.own.2 with ⟨_, h0⟩ | h
      · omega
      · exact h
    cases e
    unfold maxLen at hcm
    have hgb : Bk w' y 34 cur.toList := by show _ = _; simpa using hg
    have hcl : cur.toList.length = c * 2 := by simpa using hcs
    generalize cur.toList = cl at *
    generalize hpp : pos ps k = p at *
    have hc : ∀ j u, (pcs ps)[j]? = some u → cl[j]? = some u := fun j u hu => by
      rw [← htk, List.getElem?_take] at hu
      split at hu
      · exact hu
      · cases hu
    have a0 := hgb.cell (hc _ _ (pcs_at ps p hlt).1)
    have a1 := hgb.cell (hc _ _ (pcs_at ps p hlt).2)
    have a2 := hgb.free (p * 2)
    have a3 := hgb.free (p * 2 + 1)
    have hgne : ¬ y = g := fun e => SB1.out.ne (by rw [e]; rfl)
    have hlt' : (p : Int) < (ps.length : Int) := by omega
    have hp0 : (0 : Int) ≤ (p : Int) := by omega
    have HK : Hid (SbPost base g (some y) (insP ps (k, v)) w (.returned (.tuple #[])) ((w'.setCell ⟨y, p * 2, none⟩ (.string k)).setCell ⟨y, p * 2 + 1, none⟩ (.string v)).drew) := by
      have hon : Only (fun z => z = y) w' ((w'.setCell ⟨y, p * 2, none⟩ (.string k)).setCell ⟨y, p * 2 + 1, none⟩ (.string v)).drew :=
        (((only_set (R := fun z => z = y) (p := ⟨y, p * 2, none⟩) rfl _).trans (only_set (R := fun z => z = y) (p := ⟨y, p * 2 + 1, none⟩) rfl _))).trans (only_of_below (below_drew _) _)
      refine ⟨rfl, ⟨.slice (some ⟨y, 0, none⟩) ps.length c, ⟨?_, ?_, SB1.out.ne, SB1.out.le⟩, ⟨(only_of_below HB1.out _).trans (hon.mono (fun i _ hi => by subst hi; exact .inr rfl)), .inl rfl⟩⟩, ?_⟩
      · exact SB1.out.bk.to hon (fun e => hgne e.symm)
      · rw [HI.out]
        refine ⟨?_, .inr ⟨y, c, ((cl.set (p * 2) (.string k)).set (p * 2 + 1) (.string v)).toArray, by rw [List.length_set], hyb, (hgb.set _ _).set _ _, ?_, ?_, ?_, ?_⟩⟩
        · rw [pcs_length]
        · rw [List.length_set]; omega
        · unfold maxLen; omega
        · simp [hcl]
        · show ((cl.set (p * 2) (.string k)).set (p * 2 + 1) (.string v)).take ((ps.set p (k, v)).length * 2) = _
          rw [List.length_set, List.take_set, List.take_set, htk]
          exact (pcs_set ps (k, v) p hlt).symm
      · exact (HB1.out.mono HSW.out).trans (hon.below HS1.out (fun b h1 h2 => by omega))
    clear hg hcs htk hc HI hgb hcl HB1 SB1 KP1
    generalize (pAtB ps p).1 = x0 at *
    generalize (pAtB ps p).2 = x1 at *
    generalize ps.length = n at *
    go_wp2_with fail
    go_region
    all_goals (go_wp2_with fail)
    all_goals go_end0
    all_goals exact HK.out
  | false =>
    have HI : Hid (insP ps (k, v) = ps.take (pos ps k) ++ [(k, v)] ++ ps.drop (pos ps k)) := by
      show _ = _
      rw [insP, if_neg (by rw [show ((k, v) : PB).1 = k from rfl, hth]; decide)]
    have hle := pos_le ps k
    generalize hpp : pos ps k = p at *
    have HIN := hid (fun (u : World) vb (hO : u.ownsRow base 34 2 (.slice a n c) n (pcs ps)) hu hB hne => insertS_any (.slice a n c) n p vb base (pcs ps) [.string k, .string v] u hO hu (by rw [HN.out]; exact hle) hnn hB rfl (pcs_one ps) (by intro z hz; simp at hz; rcases hz with rfl | rfl <;> rfl) hne)
    clear hpp hth
    have hO1 : w'.ownsRow base 34 2 (.slice a n c) n (pcs ps) := by have := SB1.out.own; unfold Ow at this; rw [HN.out]; rw [HN.out] at this; exact this
    have hbn := below_new (o := .cells #[.string k, .string v] 34) (w := w') (Below.refl _ _)
    have hbd : Below w'.heap.size w' (w'.alloc (.cells #[.string k, .string v] 34)).drew := Below.then' hbn (below_drew _) (Nat.le_refl _)
    have HC := hid (HIN.out (w'.alloc (.cells #[.string k, .string v] 34)).drew w'.heap.size (own_kept hO1 (only_of_below hbd (fun _ => False)) (fun _ _ h => h)) (Nat.le_trans HS1.out hbd.size) ((Bk.new w' 34 [.string k, .string v]).below (below_drew _)) (fun e => by have := (World.ownsRow.lt hO1 _ e).2; omega))
    have KB2 := hid (SB1.out.bk.below hbd)
    have c0a := (SB1.out.bk.below hbn).cell (j := 0) rfl
    have c0b := (SB1.out.bk.below hbd).cell (j := 0) rfl
    have HBD := hid hbd
    have HBN := hid SB1.out.ne
    have HFIN : Hid (∀ (a3 : Option Addr) (c3 : Nat) (w3 : World), w3.ownsRow base 34 2 (.slice a3 (n + 1) c3) (n + 1) ((pcs ps).take (p * 2) ++ [.string k, .string v] ++ (pcs ps).drop (p * 2)) → (w'.alloc (.cells #[.string k, .string v] 34)).drew.grownBy w3 (Value.slice a n c).ownBlock →
        ((Value.slice a3 (n + 1) c3).ownBlock = (Value.slice a n c).ownBlock ∨ ∃ q, (Value.slice a3 (n + 1) c3).ownBlock = some q ∧ (w'.alloc (.cells #[.string k, .string v] 34)).drew.heap.size ≤ q) → SbPost base g (Value.slice a n c).ownBlock (insP ps (k, v)) w (.returned (.tuple #[])) (w3.setCell ⟨g, 0, none⟩ (.slice a3 (n + 1) c3))) := by
      intro a3 c3 w3 hO3 hg3 hw3
      rw [pcs_ins] at hO3
      have hl : (ps.take p ++ [(k, v)] ++ ps.drop p).length = n + 1 := by have := HN.out; simp only [List.length_append, List.length_take, List.length_drop, List.length_cons, List.length_nil]; omega
      have hgl : g < w'.heap.size := SB1.out.bk.lt
      have hne3 : (Value.slice a3 (n + 1) c3).ownBlock ≠ some g := by
        rcases hw3 with e | ⟨q, e, hq⟩
        · rw [e]; exact HBN.out
        · rw [e]; intro h; cases h; have := hbd.size; omega
      have hkk : SbK g (Value.slice a n c).ownBlock w (.slice a3 (n + 1) c3) (w3.setCell ⟨g, 0, none⟩ (.slice a3 (n + 1) c3)) := by
        refine ⟨(only_of_below HB1.out _).trans (((only_of_below hbd _).trans (only_of_grown hg3 (fun q e => .inr e))).trans (only_set (.inl rfl) _)), hw3.imp id ?_⟩
        rintro ⟨q, e, hq⟩
        exact ⟨q, e, by have h1 := HB1.out.size; have h2 := hbd.size; omega⟩
      refine ⟨rfl, ⟨.slice a3 (n + 1) c3, ⟨(bk_grown KB2.out hg3 HBN.out).set 0 _, ?_, hne3, SB1.out.le⟩, hkk⟩, ?_⟩
      · rw [HI.out]
        show World.ownsRow _ _ _ _ _ _ _
        rw [hl]
        exact own_kept hO3 (only_set (R := fun z => z = g) rfl _) (fun q e h => hne3 (h ▸ e))
      · have hob : Only (fun z => base ≤ z) w' (w3.setCell ⟨g, 0, none⟩ (.slice a3 (n + 1) c3)) := ((only_of_below hbd _).trans (only_of_grown hg3 (R := fun z => base ≤ z) (fun q e => (World.ownsRow.lt hO1 q e).1))).trans (only_set (R := fun z => base ≤ z) SB1.out.le _)
        exact (HB1.out.mono HSW.out).trans (hob.below HS1.out (fun b h1 h2 => by omega))
    clear hbn hbd HIN hO1 SB1 HB1 KP1 HA
    go_wp2_with fail
    go_region_with (go_at_call 87; refine HC.out.mono ?_; rintro e w3 ⟨a3, c3, rfl, hO3, hg3, hw3⟩; have e0 := (bk_grown KB2.out hg3 HBN.out).cell (j := 0) rfl; have e1 := (bk_grown KB2.out hg3 HBN.out).free 0)
    all_goals (go_wp2_with fail)
    all_goals go_end0
    all_goals exact HFIN.out _ _ _ hO3 hg3 hw3
end Go.Proofs.Ytjbamfgfgbmieaa
/-
  The program's sorted list in a box: drop.
-/
namespace Go.Proofs.Ytjbamfgfgbmieaa
open Go.RowKit
theorem SbPost.keep {base g : Nat} {v : Value} {l : List PB} {w w' : World} (h : SB w' base g v l) (hb : Below w.heap.size w w') (hbase : base ≤ w.heap.size) : SbPost base g v.ownBlock l w (.returned (.tuple #[])) w' := ⟨rfl, ⟨v, h, only_of_below hb _, .inl rfl⟩, hb.mono hbase⟩
set_option maxHeartbeats 4000000 in
set_option maxRecDepth 20000 in
theorem sdrop_any (base g : Nat) (v0 : Value) (ps : List PB) (k : ByteArray) (w : World) (h : SB w base g v0 ps) (hbase : base ≤ w.heap.size) (ha : Asc ps) (hs : ps.length ≤ 1048576) :
    Calls Try.prog 69 #[.pointer (some ⟨g, 0, none⟩), .string k] w fun e w' => SbPost base g v0.ownBlock (delP ps k) w e w' := by
  have HA := hid ha
  obtain ⟨a, n, c, rfl, hn⟩ := h.own.shape'
  have HN : Hid (n = ps.length) := hn
  have hnn : n ≤ 1048576 := by rw [HN.out]; exact hs
  have S0 := hid h
  have HSW := hid hbase
  clear h ha hs hn hbase
  have c0 := S0.out.bk.cell (j := 0) rfl
  have HP := hid (S0.out.own.pr (S := fun _ => True) (fun _ _ _ _ => trivial))
  go_enter Try.func69, Try.ntmps69
  go_wp2_with fail
  refine (placeOf_any (fun _ => True) a n c ps k w HP.out HA.out hnn).mono ?_
  rintro e w1 ⟨rfl, hb⟩
  have S1 := hid (S0.out.below hb)
  have HB1 := hid hb
  have HS1 := hid (Nat.le_trans HSW.out hb.size)
  clear hb c0 HP S0 HA
  have c0 := S1.out.bk.cell (j := 0) rfl
  have f0 := S1.out.bk.free 0
  cases hth : there ps k with
  | false =>
    have HI : Hid (SbPost base g (Value.slice a n c).ownBlock (delP ps k) w (.returned (.tuple #[])) w1) := by
      show SbPost _ _ _ _ _ _ _
      rw [delP, if_neg (by rw [hth]; simp)]
      exact SbPost.keep S1.out HB1.out HSW.out
    generalize pos ps k = p at *
    clear hth
    go_wp2
    first
      | (go_end0; exact HI.out)
      | (refine bodyPost_ret (results_none rfl _ _ _) rfl ?_; exact HI.out)
  | true =>
    have hlt := (of_decide_eq_true hth).1
    have HI : Hid (delP ps k = ps.take (pos ps k) ++ ps.drop (pos ps k + 1)) := by show _ = _; rw [delP, if_pos hth]
    obtain ⟨m, hm⟩ : ∃ m, n = m + 1 := ⟨n - 1, by have := HN.out; omega⟩
    subst hm
    have hO1 : w1.ownsRow base 34 2 (.slice a (m + 1) c) (m + 1) (pcs ps) := by have := S1.out.own; unfold Ow at this; rw [← HN.out] at this; exact this
    have HDL := hid (deleteS_any (.slice a (m + 1) c) m (pos ps k) base (pcs ps) w1 hO1 (by have := HN.out; omega) (by omega) (pcs_one ps))
    have HLT := hid hlt
    generalize hpp : pos ps k = p at *
    have hp9 : (p : Int) ≤ 1048576 := by have := HN.out; omega
    have hp0 : (0 : Int) ≤ (p : Int) := by omega
    have HO1 := hid hO1
    clear hth hpp hlt hO1
    go_wp2_with fail
    refine HDL.out.mono ?_
    rintro e w3 ⟨g3, c3, hv3, rfl, hO3, ho3⟩
    cases hv3
    have hne3 : ¬ g3 = g := fun e => S1.out.ne (by rw [e]; rfl)
    have K3 := S1.out.bk.to ho3 (fun e => hne3 e.symm)
    have HG3 := hid (World.ownsRow.lt HO1.out g3 rfl).1
    have HF : Hid (SbPost base g (some g3) (delP ps k) w (.returned (.tuple #[])) (w3.setCell ⟨g, 0, none⟩ (.slice (some ⟨g3, 0, none⟩) m c))) := by
      show SbPost _ _ _ _ _ _ _
      rw [HI.out]
      rw [pcs_del] at hO3
      have hl : (ps.take p ++ ps.drop (p + 1)).length = m := by have := HN.out; have := HLT.out; rw [List.length_append, List.length_take, List.length_drop]; omega
      refine ⟨rfl, ⟨.slice (some ⟨g3, 0, none⟩) m c, ⟨K3.set 0 _, ?_, fun e => hne3 (by cases e; rfl), S1.out.le⟩, ⟨(only_of_below HB1.out _).trans ((ho3.mono (fun i _ hi => by subst hi; exact .inr rfl)).trans (only_set (.inl rfl) _)), .inl rfl⟩⟩, ?_⟩
      · show World.ownsRow _ _ _ _ _ _ _
        rw [hl]
        exact own_kept hO3 (only_set (R := fun z => z = g) rfl _) (fun q e h => hne3 (by cases e; exact h))
      · have hob : Only (fun z => base ≤ z) w1 (w3.setCell ⟨g, 0, none⟩ (.slice (some ⟨g3, 0, none⟩) m c)) := (ho3.mono (fun i _ hi => by subst hi; exact HG3.out)).trans (only_set (R := fun z => base ≤ z) S1.out.le _)
        exact (HB1.out.mono HSW.out).trans (hob.below HS1.out (fun b h1 h2 => by omega))
    have e0 := K3.cell (j := 0) rfl
    have e1 := K3.free 0
    clear hO3 ho3 K3 S1 HB1 HDL HI c0 f0
    go_wp2
    first
      | (go_end0; exact HF.out)
      | (refine bodyPost_ret (results_none rfl _ _ _) rfl ?_; exact HF.out)
end Go.Proofs.Ytjbamfgfgbmieaa
/-
  The program's asks on a sorted list in a box.
-/
namespace Go.Proofs.Ytjbamfgfgbmieaa
open Go.RowKit
theorem kl5 {u v : World} {a0 a1 a2 a3 a4 : Addr} {x0 x1 x2 x3 x4 : Value} (h : KL u v [(a0, x0), (a1, x1), (a2, x2), (a3, x3), (a4, x4)]) : v.cell? a0 = some x0 ∧ v.cell? a1 = some x1 ∧ v.cell? a2 = some x2 ∧ v.cell? a3 = some x3 ∧ v.cell? a4 = some x4 ∧ KL u v [(a0, x0), (a1, x1), (a2, x2), (a3, x3), (a4, x4)] := ⟨h.at (by simp), h.at (by simp), h.at (by simp), h.at (by simp), h.at (by simp), h⟩
theorem kl5c {u v v' : World} {a0 a1 a2 a3 a4 : Addr} {x0 x1 x2 x3 x4 : Value} (k : Below v.heap.size v v') (h : v.cell? a0 = some x0 ∧ v.cell? a1 = some x1 ∧ v.cell? a2 = some x2 ∧ v.cell? a3 = some x3 ∧ v.cell? a4 = some x4 ∧ KL u v [(a0, x0), (a1, x1), (a2, x2), (a3, x3), (a4, x4)]) : v'.cell? a0 = some x0 ∧ v'.cell? a1 = some x1 ∧ v'.cell? a2 = some x2 ∧ v'.cell? a3 = some x3 ∧ v'.cell? a4 = some x4 ∧ KL u v' [(a0, x0), (a1, x1), (a2, x2), (a3, x3), (a4, x4)] := kl5 (KL.call h.2.2.2.2.2 k)
theorem kl5_bel {u v : World} {a0 a1 a2 a3 a4 : Addr} {x0 x1 x2 x3 x4 : Value} (h : v.cell? a0 = some x0 ∧ v.cell? a1 = some x1 ∧ v.cell? a2 = some x2 ∧ v.cell? a3 = some x3 ∧ v.cell? a4 = some x4 ∧ KL u v [(a0, x0), (a1, x1), (a2, x2), (a3, x3), (a4, x4)]) : Below u.heap.size u v := KL.bel h.2.2.2.2.2
theorem kl5_0 {u : World} {a0 a1 a2 a3 a4 : Addr} {x0 x1 x2 x3 x4 : Value} (h0 : u.cell? a0 = some x0) (h1 : u.cell? a1 = some x1) (h2 : u.cell? a2 = some x2) (h3 : u.cell? a3 = some x3) (h4 : u.cell? a4 = some x4) : KL u u [(a0, x0), (a1, x1), (a2, x2), (a3, x3), (a4, x4)] := ⟨fun p hp => by
    simp only [List.mem_cons, List.not_mem_nil, or_false] at hp
    rcases hp with rfl | rfl | rfl | rfl | rfl <;> assumption, Below.refl _ _⟩
/-- What an ask leaves: what it tells, in new memory; the list behind it. -/
def RkPost (base g : Nat) (o0 : Option Nat) (D T : List PB) (w : World) (e : Ending) (w' : World) : Prop :=
  ∃ a n c, e = .returned (.slice a n c) ∧ Rp w' w.heap.size (.slice a n c) T ∧ (∃ v', SB w' base g v' D ∧ (T ≠ [] → ∀ y, v'.ownBlock = some y → y < w.heap.size) ∧ SbK g o0 w v' w') ∧ Below base w w'
theorem rk_nil {base g : Nat} {o0 : Option Nat} {D : List PB} {w U w1 : World} (hU : Below w.heap.size w U) (hbase : base ≤ w.heap.size) (h : SbPost base g o0 D U (.returned (.tuple #[])) w1) : RkPost base g o0 D [] w (.returned (.slice none 0 0)) w1 := by
  obtain ⟨_, ⟨v', hs, hk⟩, hb⟩ := h
  exact ⟨none, 0, 0, rfl, (ow_nil _ _).rp, ⟨v', hs, fun h => absurd rfl h, (only_of_below hU _).trans hk.only, hk.own.imp id (fun ⟨q, e, hq⟩ => ⟨q, e, Nat.le_trans hU.size hq⟩)⟩, (hU.mono hbase).trans hb⟩
theorem rk_read {base g : Nat} {v : Value} {D T : List PB} {w U w1 : World} {a : Option Addr} {n c : Nat} (hU : Below w.heap.size w U) (hbase : base ≤ w.heap.size) (h0 : SB w base g v D) (hb : Below U.heap.size U w1) (hR : Rp w1 w.heap.size (.slice a n c) T) : RkPost base g v.ownBlock D T w (.returned (.slice a n c)) w1 :=
  ⟨a, n, c, rfl, hR, ⟨v, (h0.below hU).below hb, fun _ y hy => (World.ownsRow.lt h0.own y hy).2, (only_of_below hU _).trans (only_of_below hb _), .inl rfl⟩, (hU.trans (hb.mono hU.size)).mono hbase⟩
set_option maxHeartbeats 4000000 in
set_option maxRecDepth 20000 in
theorem runAsk_any (base g : Nat) (v0 : Value) (l : List PB) (k : Int) (ky vl lo hi : ByteArray) (mo : Int) (bk : Bool) (w : World) (h : SB w base g v0 l) (hbase : base ≤ w.heap.size) (hd : daOk l = true) (hs : l.length ≤ 1048576) (hk : akOk k ky vl lo hi mo bk = true) :
    Calls Try.prog 36 #[.pointer (some ⟨g, 0, none⟩), .agg #[.int .i64 k, .string ky, .string vl, .string lo, .string hi, .int .i64 mo, .bool bk]] w fun e w' => RkPost base g v0.ownBlock (raD l k ky vl) (raT l k ky lo hi mo bk) w e w' := by
  have hb := below_new (o := .cells #[.int .i64 k, .string ky, .string vl, .string lo, .string hi, .int .i64 mo, .bool bk] 27) (w := w) (Below.refl _ _)
  have HB0 := hid hb
  have K0 := hid (Bk.new w 27 [.int .i64 k, .string ky, .string vl, .string lo, .string hi, .int .i64 mo, .bool bk])
  have S0 := hid (h.below hb)
  have S00 := hid h
  have HBA := hid hbase
  have HBU := hid (Nat.le_trans hbase hb.size)
  have HD := hid hd
  have HL := hid hs
  have HK := hid hk
  obtain ⟨a, n, c, rfl, hn⟩ := h.own.shape'
  have HN : Hid (n = l.length) := hn
  have hnn : n ≤ 1048576 := by rw [HN.out]; exact HL.out
  clear hb h hbase hd hs hk hn
  rcases ak_kind HK.out with rfl | rfl | rfl | rfl
  · have HG := hid (ak_get HK.out (.inl rfl))
    have HT : Hid (raT l 1 ky lo hi mo bk = scV l (ptLo ky) (ptHi ky) 1 false) := (get_eq HD.out HG.out.1).symm
    have HDD : Hid (raD l 1 ky vl = l) := rfl
    have C1 : Hid (∀ u, Calls Try.prog 67 #[.string ky] u fun e w' => e = .returned (.agg #[.string (ptLo ky), .string (ptHi ky)]) ∧ Below u.heap.size u w') := fun u => implPointOf_any ky u
    have C2 : Hid (∀ u : World, SB u base g (.slice a n c) l → Calls Try.prog 66 #[.slice a n c, .agg #[.string (ptLo ky), .string (ptHi ky)], .int .i64 1, .bool false] u fun e w' => RpPost u.heap.size (scV l (ptLo ky) (ptHi ky) 1 false) u e w') := fun u hu => sread_any (fun _ => True) a n c l _ _ 1 false u (hu.own.pr (fun _ _ _ _ => trivial)) HD.out hnn (pt_ok (uOk_kOk HG.out.1)) (by omega)
    have c0 := S0.out.bk.cell (j := 0) rfl
    have k0 := K0.out.cell (j := 0) rfl
    have k1 := K0.out.cell (j := 1) rfl
    have k2 := K0.out.cell (j := 2) rfl
    have k3 := K0.out.cell (j := 3) rfl
    have k4 := K0.out.cell (j := 4) rfl
    have k5 := K0.out.cell (j := 5) rfl
    have k6 := K0.out.cell (j := 6) rfl
    have T0 := hid (kl2_0 c0 k1)
    go_enter Try.func36, Try.ntmps36
    go_wp2_with fail
    generalize hU : w.alloc (.cells #[.int .i64 1, .string ky, .string vl, .string lo, .string hi, .int .i64 mo, .bool bk] 27) = U at *
    clear hU k0 k2 k3 k4 k5 k6
    go_region_held3 (fun u => u.cell? ⟨g, 0, none⟩ = some (.slice a n c) ∧ u.cell? ⟨w.heap.size, 1, none⟩ = some (.string ky) ∧ KL U u [(⟨g, 0, none⟩, .slice a n c), (⟨w.heap.size, 1, none⟩, .string ky)])
      (first | assumption | exact kl2 (T0.out.call (below_drew _)) | exact kl2c hbC (by assumption))
      (first
        | (go_at_call 67; refine (C1.out _).mono ?_; rintro e w' ⟨rfl, hbC⟩)
        | (go_at_call 66; have hz := (kl2_bel (by assumption)).size; refine (C2.out _ (S0.out.below (kl2_bel (by assumption)))).mono ?_; rintro e w' ⟨a2, n2, c2, rfl, hR, hbC0⟩; have hbC := hbC0))
    rename_i hS
    have HF := hid (rk_read HB0.out HBA.out S00.out (kl2_bel hS) (own_mono_rp' hR (Nat.le_trans HB0.out.size hz)))
    clear hS hR hbC hbC0 hz T0 c0 k1 C1 C2 S0 S00 HB0
    go_wp2
    go_ret
    rw [HT.out, HDD.out]
    exact HF.out
  · have HG := hid (ak_get HK.out (.inr (.inl rfl)))
    have HT : Hid (raT l 2 ky lo hi mo bk = []) := rfl
    have HDD : Hid (raD l 2 ky vl = insP l (ky, vl)) := rfl
    have c0 := S0.out.bk.cell (j := 0) rfl
    have k0 := K0.out.cell (j := 0) rfl
    have k1 := K0.out.cell (j := 1) rfl
    have k2 := K0.out.cell (j := 2) rfl
    have k3 := K0.out.cell (j := 3) rfl
    have k4 := K0.out.cell (j := 4) rfl
    have k5 := K0.out.cell (j := 5) rfl
    have k6 := K0.out.cell (j := 6) rfl
    go_enter Try.func36, Try.ntmps36
    go_wp2_with fail
    refine (sput_any base g _ l ky vl _ S0.out HBU.out (daOk_asc HD.out) HL.out).mono ?_
    rintro e w1 hp
    obtain rfl : e = .returned (.tuple #[]) := hp.1
    have HF := hid (rk_nil HB0.out HBA.out hp)
    clear hp c0 k0 k1 k2 k3 k4 k5 k6 S0 S00 HB0
    go_wp2
    go_ret
    rw [HT.out, HDD.out]
    exact HF.out
  · have HG := hid (ak_get HK.out (.inr (.inr rfl)))
    have HT : Hid (raT l 3 ky lo hi mo bk = []) := rfl
    have HDD : Hid (raD l 3 ky vl = delP l ky) := rfl
    have c0 := S0.out.bk.cell (j := 0) rfl
    have k0 := K0.out.cell (j := 0) rfl
    have k1 := K0.out.cell (j := 1) rfl
    have k2 := K0.out.cell (j := 2) rfl
    have k3 := K0.out.cell (j := 3) rfl
    have k4 := K0.out.cell (j := 4) rfl
    have k5 := K0.out.cell (j := 5) rfl
    have k6 := K0.out.cell (j := 6) rfl
    go_enter Try.func36, Try.ntmps36
    go_wp2_with fail
    refine (sdrop_any base g _ l ky _ S0.out HBU.out (daOk_asc HD.out) HL.out).mono ?_
    rintro e w1 hp
    obtain rfl : e = .returned (.tuple #[]) := hp.1
    have HF := hid (rk_nil HB0.out HBA.out hp)
    clear hp c0 k0 k1 k2 k3 k4 k5 k6 S0 S00 HB0
    go_wp2
    go_ret
    rw [HT.out, HDD.out]
    exact HF.out
  · have HG := hid (ak_scan HK.out)
    have HT : Hid (raT l 4 ky lo hi mo bk = scV l lo hi mo bk) := rfl
    have HDD : Hid (raD l 4 ky vl = l) := rfl
    have C2 : Hid (∀ u : World, SB u base g (.slice a n c) l → Calls Try.prog 66 #[.slice a n c, .agg #[.string lo, .string hi], .int .i64 mo, .bool bk] u fun e w' => RpPost u.heap.size (scV l lo hi mo bk) u e w') := fun u hu => sread_any (fun _ => True) a n c l _ _ mo bk u (hu.own.pr (fun _ _ _ _ => trivial)) HD.out hnn HG.out.1 HG.out.2
    have c0 := S0.out.bk.cell (j := 0) rfl
    have k0 := K0.out.cell (j := 0) rfl
    have k1 := K0.out.cell (j := 1) rfl
    have k2 := K0.out.cell (j := 2) rfl
    have k3 := K0.out.cell (j := 3) rfl
    have k4 := K0.out.cell (j := 4) rfl
    have k5 := K0.out.cell (j := 5) rfl
    have k6 := K0.out.cell (j := 6) rfl
    have T0 := hid (kl5_0 c0 k3 k4 k5 k6)
    go_enter Try.func36, Try.ntmps36
    go_wp2_with fail
    generalize hU : w.alloc (.cells #[.int .i64 4, .string ky, .string vl, .string lo, .string hi, .int .i64 mo, .bool bk] 27) = U at *
    clear hU k0 k1 k2
    go_region_held3 (fun u => u.cell? ⟨g, 0, none⟩ = some (.slice a n c) ∧ u.cell? ⟨w.heap.size, 3, none⟩ = some (.string lo) ∧ u.cell? ⟨w.heap.size, 4, none⟩ = some (.string hi) ∧ u.cell? ⟨w.heap.size, 5, none⟩ = some (.int .i64 mo) ∧ u.cell? ⟨w.heap.size, 6, none⟩ = some (.bool bk) ∧ KL U u [(⟨g, 0, none⟩, .slice a n c), (⟨w.heap.size, 3, none⟩, .string lo), (⟨w.heap.size, 4, none⟩, .string hi), (⟨w.heap.size, 5, none⟩, .int .i64 mo), (⟨w.heap.size, 6, none⟩, .bool bk)])
      (first | assumption | exact kl5 (T0.out.call (below_drew _)) | exact kl5c hbC (by assumption))
      (first | (go_at_call 66; have hz := (kl5_bel (by assumption)).size; refine (C2.out _ (S0.out.below (kl5_bel (by assumption)))).mono ?_; rintro e w' ⟨a2, n2, c2, rfl, hR, hbC⟩))
    rename_i hS
    have HF := hid (rk_read HB0.out HBA.out S00.out (kl5_bel hS) (own_mono_rp' hR (Nat.le_trans HB0.out.size hz)))
    clear hS hR hbC hz T0 c0 k3 k4 k5 k6 C2 S0 S00 HB0
    go_wp2
    go_ret
    rw [HT.out, HDD.out]
    exact HF.out
end Go.Proofs.Ytjbamfgfgbmieaa
/-
  RunAsk of the program.
-/
namespace Go.Proofs.Ytjbamfgfgbmieaa
open Go.RowKit
def raK (l : List PB) (k : Int) (ky vl lo hi : ByteArray) (mo : Int) (bk : Bool) : Bool := daOk l && akOk k ky vl lo hi mo bk
def raDo (l : List PB) (k : Int) (ky vl lo hi : ByteArray) (mo : Int) (bk : Bool) : List PB := if raK l k ky vl lo hi mo bk = true then raD l k ky vl else []
def raTo (l : List PB) (k : Int) (ky vl lo hi : ByteArray) (mo : Int) (bk : Bool) : List PB := if raK l k ky vl lo hi mo bk = true then raT l k ky lo hi mo bk else []
theorem raDo_len (l : List PB) (k : Int) (ky vl lo hi : ByteArray) (mo : Int) (bk : Bool) : (raDo l k ky vl lo hi mo bk).length ≤ l.length + 1 := by
  unfold raDo
  split
  · exact raD_len _ _ _ _
  · simp
theorem raTo_len (l : List PB) (k : Int) (ky vl lo hi : ByteArray) (mo : Int) (bk : Bool) : (raTo l k ky vl lo hi mo bk).length ≤ 8 := by
  unfold raTo raK
  split
  · rename_i h
    rw [Bool.and_eq_true] at h
    exact raT_len h.1 h.2
  · simp
theorem ow_mono {w : World} {base base' : Nat} {v : Value} {l : List PB} (h : Ow w base v l) (hb : base' ≤ base) : Ow w base' v l := by
  refine ⟨h.1, h.2.imp id ?_⟩
  rintro ⟨g, cap, cur, k1, k2, k3⟩
  exact ⟨g, cap, cur, k1, by omega, k3⟩
/-- What RunAsk leaves: the data, and behind it what is told; the truth of it. -/
def RaPost (ok : Bool) (D T : List PB) (w : World) (e : Ending) (w' : World) : Prop :=
  ∃ a n c a2 n2 c2, e = .returned (.tuple #[.slice a n c, .slice a2 n2 c2, .bool ok]) ∧ Ow w' w.heap.size (.slice a n c) D ∧ (∃ B2, w.heap.size ≤ B2 ∧ Rp w' B2 (.slice a2 n2 c2) T ∧ (T ≠ [] → ∀ y, (Value.slice a n c).ownBlock = some y → y < B2)) ∧ Below w.heap.size w w'
theorem ra_no {w w' : World} (hb : Below w.heap.size w w') : RaPost false [] [] w (.returned (.tuple #[.slice none 0 0, .slice none 0 0, .bool false])) w' := ⟨none, 0, 0, none, 0, 0, rfl, ow_nil _ _, ⟨w.heap.size, Nat.le_refl _, (ow_nil _ _).rp, fun h => absurd rfl h⟩, hb⟩
set_option maxHeartbeats 4000000 in
set_option maxRecDepth 20000 in
theorem implRunAsk_any (S : Nat → Prop) (a : Option Addr) (n c : Nat) (l : List PB) (k : Int) (ky vl lo hi : ByteArray) (mo : Int) (bk : Bool) (w : World) (h : Pr w S (.slice a n c) l) (hs : n ≤ 1048576) :
    Calls Try.prog 7 #[.slice a n c, .agg #[.int .i64 k, .string ky, .string vl, .string lo, .string hi, .int .i64 mo, .bool bk]] w fun e w' => RaPost (raK l k ky vl lo hi mo bk) (raDo l k ky vl lo hi mo bk) (raTo l k ky vl lo hi mo bk) w e w' := by
  have hb := below_new (o := .cells #[.int .i64 k, .string ky, .string vl, .string lo, .string hi, .int .i64 mo, .bool bk] 27) (w := w) (Below.refl _ _)
  have HB0 := hid hb
  have K0 := hid (Bk.new w 27 [.int .i64 k, .string ky, .string vl, .string lo, .string hi, .int .i64 mo, .bool bk])
  have P0 := hid (h.below' hb)
  have HN := hid (Rw.len h).1
  clear hb h
  have k0 := K0.out.cell (j := 0) rfl
  have k1 := K0.out.cell (j := 1) rfl
  have k2 := K0.out.cell (j := 2) rfl
  have k3 := K0.out.cell (j := 3) rfl
  have k4 := K0.out.cell (j := 4) rfl
  have k5 := K0.out.cell (j := 5) rfl
  have k6 := K0.out.cell (j := 6) rfl
  go_enter Try.func7, Try.ntmps7
  go_wp2_with fail
  refine (implDataOk_at S a n c l _ P0.out hs).mono ?_
  generalize w.alloc (.cells #[.int .i64 k, .string ky, .string vl, .string lo, .string hi, .int .i64 mo, .bool bk] 27) = U at *
  rintro e w1 ⟨rfl, hb⟩
  have HB1 := hid (HB0.out.trans (hb.mono HB0.out.size))
  have K1 := hid (K0.out.below hb)
  have P1 := hid (P0.out.below' hb)
  clear hb k0 k1 k2 k3 k4 k5 k6 K0 P0 HB0
  have k0 := K1.out.cell (j := 0) rfl
  have k1 := K1.out.cell (j := 1) rfl
  have k2 := K1.out.cell (j := 2) rfl
  have k3 := K1.out.cell (j := 3) rfl
  have k4 := K1.out.cell (j := 4) rfl
  have k5 := K1.out.cell (j := 5) rfl
  have k6 := K1.out.cell (j := 6) rfl
  cases hd : daOk l with
  | false =>
    have HE : Hid (raK l k ky vl lo hi mo bk = false ∧ raDo l k ky vl lo hi mo bk = [] ∧ raTo l k ky vl lo hi mo bk = []) := by
      have e : raK l k ky vl lo hi mo bk = false := by simp [raK, hd]
      show _ ∧ _ ∧ _
      exact ⟨e, by simp [raDo, e], by simp [raTo, e]⟩
    clear hd
    go_wp2
    go_ret3
    rw [HE.out.1, HE.out.2.1, HE.out.2.2]
    exact ra_no HB1.out
  | true =>
    go_wp2_with fail
    refine (implAskOk_any k ky vl lo hi mo bk _).mono ?_
    rintro e w2 ⟨rfl, hb⟩
    have HB2 := hid (HB1.out.trans (hb.mono HB1.out.size))
    have K2 := hid (K1.out.below hb)
    have P2 := hid (P1.out.below' hb)
    clear hb k0 k1 k2 k3 k4 k5 k6 K1 P1 HB1
    have k0 := K2.out.cell (j := 0) rfl
    have k1 := K2.out.cell (j := 1) rfl
    have k2 := K2.out.cell (j := 2) rfl
    have k3 := K2.out.cell (j := 3) rfl
    have k4 := K2.out.cell (j := 4) rfl
    have k5 := K2.out.cell (j := 5) rfl
    have k6 := K2.out.cell (j := 6) rfl
    cases hk : akOk k ky vl lo hi mo bk with
    | false =>
      have HE : Hid (raK l k ky vl lo hi mo bk = false ∧ raDo l k ky vl lo hi mo bk = [] ∧ raTo l k ky vl lo hi mo bk = []) := by
        have e : raK l k ky vl lo hi mo bk = false := by simp [raK, hk]
        show _ ∧ _ ∧ _
        exact ⟨e, by simp [raDo, e], by simp [raTo, e]⟩
      clear hd hk
      go_wp2
      go_ret3
      rw [HE.out.1, HE.out.2.1, HE.out.2.2]
      exact ra_no HB2.out
    | true =>
      have HE : Hid (raK l k ky vl lo hi mo bk = true ∧ raDo l k ky vl lo hi mo bk = raD l k ky vl ∧ raTo l k ky vl lo hi mo bk = raT l k ky lo hi mo bk) := by
        have e : raK l k ky vl lo hi mo bk = true := by simp [raK, hd, hk]
        show _ ∧ _ ∧ _
        exact ⟨e, by simp [raDo, e], by simp [raTo, e]⟩
      have HD := hid hd
      have HK := hid hk
      clear hd hk
      go_wp2_with fail
      refine (copyPr_any S a n c l _ P2.out (by omega)).mono ?_
      rintro e w3 ⟨a3, n3, c3, rfl, hn3, hO, hb⟩
      have HB3 := hid (HB2.out.trans (hb.mono HB2.out.size))
      have K3 := hid (K2.out.below hb)
      have HS23 := hid hb.size
      have HO3 := hid hO
      clear hb hO hn3 k0 k1 k2 k3 k4 k5 k6 K2 P2
      have hbn := below_new (o := .cells #[.slice a3 n3 c3] 68) (w := w3) (Below.refl _ _)
      have SB4 : Hid (SB (w3.alloc (.cells #[.slice a3 n3 c3] 68)) w2.heap.size w3.heap.size (.slice a3 n3 c3) l) := ⟨Bk.new w3 _ _, HO3.out.kept hbn, fun e => by have := (World.ownsRow.lt HO3.out _ e).2; omega, HS23.out⟩
      have HB4 := hid (HB3.out.trans (hbn.mono HB3.out.size))
      have K4 := hid (K3.out.below hbn)
      have HS4 := hid (Nat.le_trans HS23.out hbn.size)
      have HSZ := hid (Nat.le_trans HB3.out.size hbn.size)
      clear hbn K3 HO3
      have k0 := K4.out.cell (j := 0) rfl
      have k1 := K4.out.cell (j := 1) rfl
      have k2 := K4.out.cell (j := 2) rfl
      have k3 := K4.out.cell (j := 3) rfl
      have k4 := K4.out.cell (j := 4) rfl
      have k5 := K4.out.cell (j := 5) rfl
      have k6 := K4.out.cell (j := 6) rfl
      go_wp2_with fail
      refine (runAsk_any w2.heap.size w3.heap.size _ l k ky vl lo hi mo bk _ SB4.out HS4.out HD.out (by rw [← HN.out]; exact hs) HK.out).mono ?_
      generalize hU4 : w3.alloc (.cells #[.slice a3 n3 c3] 68) = U4 at *
      clear hU4
      rintro e w5 ⟨a5, n5, c5, rfl, hR, ⟨v5, hS5, hne, _⟩, hb⟩
      obtain ⟨a6, n6, c6, rfl, _⟩ := hS5.own.shape'
      have HF : Hid (RaPost true (raD l k ky vl) (raT l k ky lo hi mo bk) w (.returned (.tuple #[.slice a6 n6 c6, .slice a5 n5 c5, .bool true])) w5) := ⟨a6, n6, c6, a5, n5, c5, rfl, ow_mono hS5.own HB2.out.size, ⟨U4.heap.size, HSZ.out, hR, hne⟩, HB4.out.trans (hb.mono HB2.out.size)⟩
      have d0 := hS5.bk.cell (j := 0) rfl
      clear hR hS5 hne hb k0 k1 k2 k3 k4 k5 k6 K4 SB4 HB4 HB2 HB3
      go_wp2
      go_ret3
      rw [HE.out.1, HE.out.2.1, HE.out.2.2]
      exact HF.out
end Go.Proofs.Ytjbamfgfgbmieaa
/-
  A pair put into rising data, or its key taken out: the specification's way.
-/
namespace Go.Proofs.Ytjbamfgfgbmieaa
open Go.RowKit
def lpStep (k v : ByteArray) (s : List PB × Bool) (p : PB) : List PB × Bool :=
  let o1 := if s.2 = false ∧ klt p.1 k = false then s.1 ++ [(k, v)] else s.1
  ((if p.1 = k then o1 else o1 ++ [p]), s.2 || !klt p.1 k)
def lpS (l : List PB) (k v : ByteArray) (gone : Bool) (j : Nat) : List PB × Bool := (l.take j).foldl (lpStep k v) ([], gone)
def lpE (k v : ByteArray) (s : List PB × Bool) : List PB := if s.2 then s.1 else s.1 ++ [(k, v)]
def lpV (l : List PB) (k v : ByteArray) (gone : Bool) : List PB := lpE k v (lpS l k v gone l.length)
theorem lpS_step (l : List PB) (k v : ByteArray) (gone : Bool) (j : Nat) (h : j < l.length) : lpS l k v gone (j + 1) = lpStep k v (lpS l k v gone j) (pAtB l j) := by
  unfold lpS
  rw [List.take_succ_eq_append_getElem h, List.foldl_append, pAtB_lt h]
  rfl
theorem lp_true (k v : ByteArray) : ∀ (l acc : List PB), l.foldl (lpStep k v) (acc, true) = (acc ++ l.filter (fun p => !decide (p.1 = k)), true)
  | [], acc => by simp
  | p :: l, acc => by
    rw [List.foldl_cons]
    have e : lpStep k v (acc, true) p = (acc ++ (if p.1 = k then [] else [p]), true) := by
      unfold lpStep
      by_cases hk : p.1 = k <;> simp [hk]
    rw [e, lp_true k v l]
    by_cases hk : p.1 = k
    · simp [hk]
    · simp [hk]
theorem filt_gt {l : List PB} {k : ByteArray} (h : ∀ x ∈ l, klt k x.1 = true) : l.filter (fun p => !decide (p.1 = k)) = l := by
  refine List.filter_eq_self.2 fun x hx => ?_
  have h1 := h x hx
  have : ¬ x.1 = k := fun e => by rw [e, klt_irrefl] at h1; cases h1
  simp [this]
theorem lp_false (k v : ByteArray) : ∀ (l acc : List PB), Asc l → lpE k v (l.foldl (lpStep k v) (acc, false)) = acc ++ insP l (k, v)
  | [], acc, _ => by simp [lpE, insP_nil]
  | p :: l, acc, h => by
    rw [List.foldl_cons]
    by_cases hk : p.1 = k
    · have e : lpStep k v (acc, false) p = (acc ++ [(k, v)], true) := by
        unfold lpStep
        simp [hk, klt_irrefl]
      rw [e, lp_true, insP_eq (p := (k, v)) hk]
      have hg : l.filter (fun p => !decide (p.1 = k)) = l := filt_gt fun x hx => by have := asc_lt h hx; rw [hk] at this; exact this
      simp [lpE, hg]
    · cases hl : klt p.1 k with
      | true =>
        have e : lpStep k v (acc, false) p = (acc ++ [p], false) := by
          unfold lpStep
          simp [hk, hl]
        rw [e, lp_false k v l _ (asc_tail h), insP_lt (p := (k, v)) hl]
        simp
      | false =>
        have e : lpStep k v (acc, false) p = (acc ++ [(k, v)] ++ [p], true) := by
          unfold lpStep
          simp [hk, hl]
        have hkp : klt k p.1 = true := klt_total hl hk
        rw [e, lp_true, insP_gt (p := (k, v)) hl hk]
        have hg : l.filter (fun p => !decide (p.1 = k)) = l := filt_gt fun x hx => klt_trans hkp (asc_lt h hx)
        simp [lpE, hg]
theorem del_filt (k : ByteArray) : ∀ (l : List PB), Asc l → l.filter (fun p => !decide (p.1 = k)) = delP l k
  | [], _ => by simp [delP_nil]
  | p :: l, h => by
    by_cases hk : p.1 = k
    · rw [delP_eq hk]
      have hg : l.filter (fun p => !decide (p.1 = k)) = l := filt_gt fun x hx => by have := asc_lt h hx; rw [hk] at this; exact this
      simp [hk, hg]
    · cases hl : klt p.1 k with
      | true => rw [delP_lt hl, ← del_filt k l (asc_tail h)]; simp [hk]
      | false =>
        have hkp : klt k p.1 = true := klt_total hl hk
        have hg : l.filter (fun p => !decide (p.1 = k)) = l := filt_gt fun x hx => klt_trans hkp (asc_lt h hx)
        rw [delP_gt hl hk]
        simp [hk, hg]
theorem lpV_put {l : List PB} (h : Asc l) (k v : ByteArray) : lpV l k v false = insP l (k, v) := by
  unfold lpV lpS
  rw [List.take_length, lp_false k v l [] h]
  rfl
theorem lpV_del {l : List PB} (h : Asc l) (k v : ByteArray) : lpV l k v true = delP l k := by
  unfold lpV lpS
  rw [List.take_length, lp_true k v l []]
  simp [lpE, del_filt k l h]
set_option maxHeartbeats 8000000 in
set_option maxRecDepth 20000 in
theorem l10Put_any (S : Nat → Prop) (a : Option Addr) (n c : Nat) (l : List PB) (k v : ByteArray) (gone : Bool) (w : World) (h : Pr w S (.slice a n c) l) (hs : n ≤ 1048576) :
    Calls Try.prog 39 #[.slice a n c, .agg #[.string k, .string v, .bool gone]] w fun e w' => ∃ a' n' c', e = .returned (.slice a' n' c') ∧ Ow w' w.heap.size (.slice a' n' c') (lpV l k v gone) ∧ Below w.heap.size w w' := by
  have hb0 := below_new (o := .cells #[.string k, .string v, .bool gone] 74) (w := w) (Below.refl _ _)
  have HB0 := hid hb0
  have K0 := hid (Bk.new w 74 [.string k, .string v, .bool gone])
  have P0 := hid (h.below' hb0)
  have HN := hid (Rw.len h).1
  clear hb0 h
  go_enter Try.func39, Try.ntmps39
  have e2 := K0.out.cell (j := 2) rfl
  have hbn := below_new (o := .cells #[] 34) (w := w.alloc (.cells #[.string k, .string v, .bool gone] 74)) (Below.refl _ _)
  have HO1 := hid (ow_new (w.alloc (.cells #[.string k, .string v, .bool gone] 74)) (w.alloc (.cells #[.string k, .string v, .bool gone] 74)).heap.size (Nat.le_refl _))
  have HB1 := hid hbn
  have e2' := (K0.out.below hbn).cell (j := 2) rfl
  clear hbn
  go_wp2_with fail
  have HUZ : Hid ((w.alloc (.cells #[.string k, .string v, .bool gone] 74)).heap.size = w.heap.size + 1) := by show _ = _; simp
  generalize hU : w.alloc (.cells #[.string k, .string v, .bool gone] 74) = U at *
  clear hU e2 e2'
  go_loopw [5, 6, 8, 14] (fun x d y i wr => ∃ (j : Nat) (av : Option Addr) (nv cv : Nat) (O : List PB) (db : Bool), j ≤ n ∧ i = .int .i64 j ∧ x = .slice av nv cv ∧ d = .bool db ∧ Hid (lpS l k v gone j = (O, db)) ∧ Hid (Ow wr U.heap.size (.slice av nv cv) O) ∧ Hid (O.length ≤ j + (if db then 1 else 0)) ∧ Hid (Below U.heap.size U wr)) (fun _ _ _ i _ => n - (intOf i).toNat)
  case atStart => exact ⟨0, _, 0, 0, [], gone, Nat.zero_le _, rfl, rfl, rfl, rfl, by have := HO1.out; rw [HUZ.out] at this ⊢; exact this, Nat.zero_le _, HB1.out⟩
  case round =>
    obtain ⟨j, av, nv, cv, O, db, hj, rfl, rfl, rfl, HS, HO, HL, HB⟩ := hrel
    clear HO1 HB1
    by_cases hlt : j < n
    · have hlt' : (j : Int) < (n : Int) := by omega
      have hj0 : (0 : Int) ≤ (j : Int) := by omega
      have HSJ : Hid (lpS l k v gone (j + 1) = lpStep k v (O, db) (pAtB l j)) := by
        show _ = _
        rw [lpS_step l k v gone j (by rw [← HN.out]; exact hlt), HS.out]
      have PJ := hid (P0.out.below' HB.out)
      obtain ⟨b, off, rfl, _, hbw, hcell⟩ := PJ.out.at (by omega)
      obtain ⟨d0, d1⟩ := hcell j hlt
      have hOl := fun y hy => (World.ownsRow.lt HO.out y hy)
      have HOL := hid hOl
      clear hcell hbw PJ HS hOl
      generalize pAtB l j = cur at *
      obtain ⟨kk, vv⟩ := cur
      simp only at d0 d1
      have hbp := below_new (o := .cells #[.string kk, .string vv] 34) (w := wr) (Below.refl _ _)
      have KP2 := hid (Bk.new wr 34 [.string kk, .string vv])
      have HO2 := hid (HO.out.kept hbp)
      have HB2 := hid (HB.out.trans (hbp.mono HB.out.size))
      have HW2 : Hid (wr.heap.size < (wr.alloc (.cells #[.string kk, .string vv] 34)).heap.size) := KP2.out.lt
      clear hbp HO
      have hcv := (Rw.len (HO2.out.pr (S := fun _ => True) (fun _ _ _ _ => trivial))).2
      rcases tri k kk with ⟨t1, t2, t3, t4⟩ | rfl | ⟨t1, t2, t3, t4⟩
      · have h1 : klt kk k = false := t2
        have h2 : ¬ kk = k := fun e => by rw [e] at t3; simp at t3
        have H1 := hid h1
        have H2 := hid h2
        clear h2
        clear h1
        cases db with
        | true =>
          have HLE : Hid (O.length ≤ 1048576) := by show _ ≤ _; have := HL.out; simp at this; omega
          have e0 := (K0.out.below HB2.out).cell (j := 0) rfl
          have e1 := (K0.out.below HB2.out).cell (j := 1) rfl
          have q0 := KP2.out.cell (j := 0) rfl
          have q1 := KP2.out.cell (j := 1) rfl
          have hb := below_new (o := .cells #[.string kk, .string vv] 34) (w := (wr.alloc (.cells #[.string kk, .string vv] 34))) (Below.refl _ _)
          have KS : Hid (Bk ((wr.alloc (.cells #[.string kk, .string vv] 34)).alloc (.cells #[.string kk, .string vv] 34)) (wr.heap.size + 1) 34 [.string kk, .string vv]) := by have := Bk.new (wr.alloc (.cells #[.string kk, .string vv] 34)) 34 [.string kk, .string vv]; show Bk _ _ _ _; simpa using this
          have HOa := hid (HO2.out.kept hb)
          have KPa := hid (KP2.out.below hb)
          have HBa := hid (HB2.out.trans (hb.mono HB2.out.size))
          have HWa := hid (Nat.lt_of_lt_of_le HW2.out hb.size)
          clear hb HO2 HB2
          go_wp2_with (at_builtin; refine wpList_append_pair1 rfl _ _ rfl U.heap.size _ O rfl HOa.out (wr.heap.size + 1) kk vv rfl KS.out ?q1 ?q2 ?_)
          case q1 => exact HLE.out
          case q2 => first | exact HBa.out.size | (have h := HBa.out.size; simp at h; omega)
          intro a7 n7 c7 w7 hO hg hown
          have HO7 : Hid (Ow w7 U.heap.size (.slice a7 n7 c7) (O ++ [(kk, vv)])) := by show Ow _ _ _ _; first | exact hO | simpa using hO
          have HB7 : Hid (Below U.heap.size U w7) := HBa.out.trans (grown_belowB HOa.out hg HBa.out.size)
          have KP7 : Hid (Bk w7 wr.heap.size 34 [.string kk, .string vv]) := KPa.out.to (only_of_grown hg (R := fun y => (Value.slice av nv cv).ownBlock = some y) (fun q hq => hq)) (fun e => by have := (HOL.out _ e).2; omega)
          have HW7 : Hid (wr.heap.size < w7.heap.size) := Nat.lt_of_lt_of_le HWa.out hg.size
          have HOL7 : Hid (∀ y, (Value.slice a7 n7 c7).ownBlock = some y → U.heap.size ≤ y ∧ (y < wr.heap.size ∨ wr.heap.size < y)) := by
            intro y hy
            refine ⟨(World.ownsRow.lt hO y hy).1, ?_⟩
            rcases hown with e | e
            · rw [e] at hy; exact .inl (HOL.out y hy).2
            · rw [e] at hy; cases hy; exact .inr (by have h := HW2.out; first | omega | (simp at h ⊢; omega) | simp)
          clear e0 e1 q0 q1
          clear hO hg hown KS HOa KPa HBa HWa
          have HLF : Hid ((O ++ [(kk, vv)]).length ≤ j + 1 + (if true then 1 else 0)) := by show _ ≤ _; have := HL.out; simp at this ⊢; omega
          clear HOL HOL7
          have HS1 : Hid (lpS l k v gone (j + 1) = (O ++ [(kk, vv)], true)) := by
            show _ = _
            rw [HSJ.out]
            unfold lpStep
            simp [H1.out, H2.out]
          clear HSJ
          go_wp2
          go_roundw
          case rel => exact ⟨j + 1, a7, n7, c7, O ++ [(kk, vv)], _, by omega, by go_num, rfl, rfl, HS1.out, HO7.out, HLF.out, HB7.out⟩
          case measure => simp [intOf]; omega
        | false =>
          have HLE : Hid (O.length ≤ 1048576) := by show _ ≤ _; have := HL.out; simp at this; omega
          have e0 := (K0.out.below HB2.out).cell (j := 0) rfl
          have e1 := (K0.out.below HB2.out).cell (j := 1) rfl
          have q0 := KP2.out.cell (j := 0) rfl
          have q1 := KP2.out.cell (j := 1) rfl
          have hb := below_new (o := .cells #[.string k, .string v] 34) (w := (wr.alloc (.cells #[.string kk, .string vv] 34))) (Below.refl _ _)
          have KS : Hid (Bk ((wr.alloc (.cells #[.string kk, .string vv] 34)).alloc (.cells #[.string k, .string v] 34)) (wr.heap.size + 1) 34 [.string k, .string v]) := by have := Bk.new (wr.alloc (.cells #[.string kk, .string vv] 34)) 34 [.string k, .string v]; show Bk _ _ _ _; simpa using this
          have HOa := hid (HO2.out.kept hb)
          have KPa := hid (KP2.out.below hb)
          have HBa := hid (HB2.out.trans (hb.mono HB2.out.size))
          have HWa := hid (Nat.lt_of_lt_of_le HW2.out hb.size)
          clear hb HO2 HB2
          go_wp2_with (at_builtin; refine wpList_append_pair1 rfl _ _ rfl U.heap.size _ O rfl HOa.out (wr.heap.size + 1) k v rfl KS.out ?q1 ?q2 ?_)
          case q1 => exact HLE.out
          case q2 => first | exact HBa.out.size | (have h := HBa.out.size; simp at h; omega)
          intro a7 n7 c7 w7 hO hg hown
          have HO7 : Hid (Ow w7 U.heap.size (.slice a7 n7 c7) (O ++ [(k, v)])) := by show Ow _ _ _ _; first | exact hO | simpa using hO
          have HB7 : Hid (Below U.heap.size U w7) := HBa.out.trans (grown_belowB HOa.out hg HBa.out.size)
          have KP7 : Hid (Bk w7 wr.heap.size 34 [.string kk, .string vv]) := KPa.out.to (only_of_grown hg (R := fun y => (Value.slice av nv cv).ownBlock = some y) (fun q hq => hq)) (fun e => by have := (HOL.out _ e).2; omega)
          have HW7 : Hid (wr.heap.size < w7.heap.size) := Nat.lt_of_lt_of_le HWa.out hg.size
          have HOL7 : Hid (∀ y, (Value.slice a7 n7 c7).ownBlock = some y → U.heap.size ≤ y ∧ (y < wr.heap.size ∨ wr.heap.size < y)) := by
            intro y hy
            refine ⟨(World.ownsRow.lt hO y hy).1, ?_⟩
            rcases hown with e | e
            · rw [e] at hy; exact .inl (HOL.out y hy).2
            · rw [e] at hy; cases hy; exact .inr (by have h := HW2.out; first | omega | (simp at h ⊢; omega) | simp)
          clear e0 e1 q0 q1
          clear hO hg hown KS HOa KPa HBa HWa
          have HLE2 : Hid ((O ++ [(k, v)]).length ≤ 1048576) := by show _ ≤ _; have := HL.out; simp at this ⊢; omega
          have e0 := (K0.out.below HB7.out).cell (j := 0) rfl
          have e1 := (K0.out.below HB7.out).cell (j := 1) rfl
          have q0 := KP7.out.cell (j := 0) rfl
          have q1 := KP7.out.cell (j := 1) rfl
          have hb := below_new (o := .cells #[.string kk, .string vv] 34) (w := w7) (Below.refl _ _)
          have KS := hid (Bk.new w7 34 [.string kk, .string vv])
          have HOa := hid (HO7.out.kept hb)
          have KPa := hid (KP7.out.below hb)
          have HBa := hid (HB7.out.trans (hb.mono HB7.out.size))
          have HWa := hid (Nat.lt_of_lt_of_le HW7.out hb.size)
          clear hb HO7 HB7
          go_wp2_with (at_builtin; refine wpList_append_pair1 rfl _ _ rfl U.heap.size _ (O ++ [(k, v)]) rfl HOa.out (w7.heap.size) kk vv rfl KS.out ?q1 ?q2 ?_)
          case q1 => exact HLE2.out
          case q2 => first | exact HBa.out.size | (have h := HBa.out.size; simp at h; omega)
          intro a8 n8 c8 w8 hO hg hown
          have HO8 : Hid (Ow w8 U.heap.size (.slice a8 n8 c8) ((O ++ [(k, v)]) ++ [(kk, vv)])) := by show Ow _ _ _ _; first | exact hO | simpa using hO
          have HB8 : Hid (Below U.heap.size U w8) := HBa.out.trans (grown_belowB HOa.out hg HBa.out.size)
          have KP8 : Hid (Bk w8 wr.heap.size 34 [.string kk, .string vv]) := KPa.out.to (only_of_grown hg (R := fun y => (Value.slice a7 n7 c7).ownBlock = some y) (fun q hq => hq)) (fun e => by have := (HOL7.out _ e).2; omega)
          have HW8 : Hid (wr.heap.size < w8.heap.size) := Nat.lt_of_lt_of_le HWa.out hg.size
          have HOL8 : Hid (∀ y, (Value.slice a8 n8 c8).ownBlock = some y → U.heap.size ≤ y ∧ (y < wr.heap.size ∨ wr.heap.size < y)) := by
            intro y hy
            refine ⟨(World.ownsRow.lt hO y hy).1, ?_⟩
            rcases hown with e | e
            · rw [e] at hy; exact (HOL7.out y hy).2
            · rw [e] at hy; cases hy; exact .inr (by have h := HW7.out; first | omega | (simp at h ⊢; omega) | simp)
          clear e0 e1 q0 q1
          clear hO hg hown KS HOa KPa HBa HWa
          have HLF : Hid ((O ++ [(k, v)] ++ [(kk, vv)]).length ≤ j + 1 + (if true then 1 else 0)) := by show _ ≤ _; have := HL.out; simp at this ⊢; omega
          clear HOL HOL7 HOL8
          have HS1 : Hid (lpS l k v gone (j + 1) = (O ++ [(k, v)] ++ [(kk, vv)], true)) := by
            show _ = _
            rw [HSJ.out]
            unfold lpStep
            simp [H1.out, H2.out]
          clear HSJ
          go_wp2
          go_roundw
          case rel => exact ⟨j + 1, a8, n8, c8, O ++ [(k, v)] ++ [(kk, vv)], _, by omega, by go_num, rfl, rfl, HS1.out, HO8.out, HLF.out, HB8.out⟩
          case measure => simp [intOf]; omega
      · have h1 : klt k k = false := klt_irrefl k
        have t1 := less_irrefl k.toList
        have H1 := hid h1
        clear h1
        cases db with
        | true =>
          have HLE : Hid (O.length ≤ 1048576) := by show _ ≤ _; have := HL.out; simp at this; omega
          have HLF : Hid (O.length ≤ j + 1 + (if true then 1 else 0)) := by show _ ≤ _; have := HL.out; simp at this ⊢; omega
          have e0 := (K0.out.below HB2.out).cell (j := 0) rfl
          have e1 := (K0.out.below HB2.out).cell (j := 1) rfl
          have q0 := KP2.out.cell (j := 0) rfl
          have q1 := KP2.out.cell (j := 1) rfl
          have HS1 : Hid (lpS l k v gone (j + 1) = (O, true)) := by
            show _ = _
            rw [HSJ.out]
            unfold lpStep
            simp [H1.out]
          clear HSJ
          go_wp2
          go_roundw
          case rel => exact ⟨j + 1, av, nv, cv, O, _, by omega, by go_num, rfl, rfl, HS1.out, HO2.out, HLF.out, HB2.out⟩
          case measure => simp [intOf]; omega
        | false =>
          have HLE : Hid (O.length ≤ 1048576) := by show _ ≤ _; have := HL.out; simp at this; omega
          have e0 := (K0.out.below HB2.out).cell (j := 0) rfl
          have e1 := (K0.out.below HB2.out).cell (j := 1) rfl
          have q0 := KP2.out.cell (j := 0) rfl
          have q1 := KP2.out.cell (j := 1) rfl
          have hb := below_new (o := .cells #[.string k, .string v] 34) (w := (wr.alloc (.cells #[.string k, .string vv] 34))) (Below.refl _ _)
          have KS : Hid (Bk ((wr.alloc (.cells #[.string k, .string vv] 34)).alloc (.cells #[.string k, .string v] 34)) (wr.heap.size + 1) 34 [.string k, .string v]) := by have := Bk.new (wr.alloc (.cells #[.string k, .string vv] 34)) 34 [.string k, .string v]; show Bk _ _ _ _; simpa using this
          have HOa := hid (HO2.out.kept hb)
          have KPa := hid (KP2.out.below hb)
          have HBa := hid (HB2.out.trans (hb.mono HB2.out.size))
          have HWa := hid (Nat.lt_of_lt_of_le HW2.out hb.size)
          clear hb HO2 HB2
          go_wp2_with (at_builtin; refine wpList_append_pair1 rfl _ _ rfl U.heap.size _ O rfl HOa.out (wr.heap.size + 1) k v rfl KS.out ?q1 ?q2 ?_)
          case q1 => exact HLE.out
          case q2 => first | exact HBa.out.size | (have h := HBa.out.size; simp at h; omega)
          intro a7 n7 c7 w7 hO hg hown
          have HO7 : Hid (Ow w7 U.heap.size (.slice a7 n7 c7) (O ++ [(k, v)])) := by show Ow _ _ _ _; first | exact hO | simpa using hO
          have HB7 : Hid (Below U.heap.size U w7) := HBa.out.trans (grown_belowB HOa.out hg HBa.out.size)
          have KP7 : Hid (Bk w7 wr.heap.size 34 [.string k, .string vv]) := KPa.out.to (only_of_grown hg (R := fun y => (Value.slice av nv cv).ownBlock = some y) (fun q hq => hq)) (fun e => by have := (HOL.out _ e).2; omega)
          have HW7 : Hid (wr.heap.size < w7.heap.size) := Nat.lt_of_lt_of_le HWa.out hg.size
          have HOL7 : Hid (∀ y, (Value.slice a7 n7 c7).ownBlock = some y → U.heap.size ≤ y ∧ (y < wr.heap.size ∨ wr.heap.size < y)) := by
            intro y hy
            refine ⟨(World.ownsRow.lt hO y hy).1, ?_⟩
            rcases hown with e | e
            · rw [e] at hy; exact .inl (HOL.out y hy).2
            · rw [e] at hy; cases hy; exact .inr (by have h := HW2.out; first | omega | (simp at h ⊢; omega) | simp)
          clear e0 e1 q0 q1
          clear hO hg hown KS HOa KPa HBa HWa
          have e0 := (K0.out.below HB7.out).cell (j := 0) rfl
          have e1 := (K0.out.below HB7.out).cell (j := 1) rfl
          have q0 := KP7.out.cell (j := 0) rfl
          have q1 := KP7.out.cell (j := 1) rfl
          have HLF : Hid ((O ++ [(k, v)]).length ≤ j + 1 + (if true then 1 else 0)) := by show _ ≤ _; have := HL.out; simp at this ⊢; omega
          clear HOL HOL7
          have HS1 : Hid (lpS l k v gone (j + 1) = (O ++ [(k, v)], true)) := by
            show _ = _
            rw [HSJ.out]
            unfold lpStep
            simp [H1.out]
          clear HSJ
          go_wp2
          go_roundw
          case rel => exact ⟨j + 1, a7, n7, c7, O ++ [(k, v)], _, by omega, by go_num, rfl, rfl, HS1.out, HO7.out, HLF.out, HB7.out⟩
          case measure => simp [intOf]; omega
      · have h1 : klt kk k = true := t2
        have h2 : ¬ kk = k := fun e => by rw [e] at t3; simp at t3
        have H1 := hid h1
        have H2 := hid h2
        clear h2
        clear h1
        cases db with
        | true =>
          have HLE : Hid (O.length ≤ 1048576) := by show _ ≤ _; have := HL.out; simp at this; omega
          have e0 := (K0.out.below HB2.out).cell (j := 0) rfl
          have e1 := (K0.out.below HB2.out).cell (j := 1) rfl
          have q0 := KP2.out.cell (j := 0) rfl
          have q1 := KP2.out.cell (j := 1) rfl
          have hb := below_new (o := .cells #[.string kk, .string vv] 34) (w := (wr.alloc (.cells #[.string kk, .string vv] 34))) (Below.refl _ _)
          have KS : Hid (Bk ((wr.alloc (.cells #[.string kk, .string vv] 34)).alloc (.cells #[.string kk, .string vv] 34)) (wr.heap.size + 1) 34 [.string kk, .string vv]) := by have := Bk.new (wr.alloc (.cells #[.string kk, .string vv] 34)) 34 [.string kk, .string vv]; show Bk _ _ _ _; simpa using this
          have HOa := hid (HO2.out.kept hb)
          have KPa := hid (KP2.out.below hb)
          have HBa := hid (HB2.out.trans (hb.mono HB2.out.size))
          have HWa := hid (Nat.lt_of_lt_of_le HW2.out hb.size)
          clear hb HO2 HB2
          go_wp2_with (at_builtin; refine wpList_append_pair1 rfl _ _ rfl U.heap.size _ O rfl HOa.out (wr.heap.size + 1) kk vv rfl KS.out ?q1 ?q2 ?_)
          case q1 => exact HLE.out
          case q2 => first | exact HBa.out.size | (have h := HBa.out.size; simp at h; omega)
          intro a7 n7 c7 w7 hO hg hown
          have HO7 : Hid (Ow w7 U.heap.size (.slice a7 n7 c7) (O ++ [(kk, vv)])) := by show Ow _ _ _ _; first | exact hO | simpa using hO
          have HB7 : Hid (Below U.heap.size U w7) := HBa.out.trans (grown_belowB HOa.out hg HBa.out.size)
          have KP7 : Hid (Bk w7 wr.heap.size 34 [.string kk, .string vv]) := KPa.out.to (only_of_grown hg (R := fun y => (Value.slice av nv cv).ownBlock = some y) (fun q hq => hq)) (fun e => by have := (HOL.out _ e).2; omega)
          have HW7 : Hid (wr.heap.size < w7.heap.size) := Nat.lt_of_lt_of_le HWa.out hg.size
          have HOL7 : Hid (∀ y, (Value.slice a7 n7 c7).ownBlock = some y → U.heap.size ≤ y ∧ (y < wr.heap.size ∨ wr.heap.size < y)) := by
            intro y hy
            refine ⟨(World.ownsRow.lt hO y hy).1, ?_⟩
            rcases hown with e | e
            · rw [e] at hy; exact .inl (HOL.out y hy).2
            · rw [e] at hy; cases hy; exact .inr (by have h := HW2.out; first | omega | (simp at h ⊢; omega) | simp)
          clear e0 e1 q0 q1
          clear hO hg hown KS HOa KPa HBa HWa
          have HLF : Hid ((O ++ [(kk, vv)]).length ≤ j + 1 + (if true then 1 else 0)) := by show _ ≤ _; have := HL.out; simp at this ⊢; omega
          clear HOL HOL7
          have HS1 : Hid (lpS l k v gone (j + 1) = (O ++ [(kk, vv)], true)) := by
            show _ = _
            rw [HSJ.out]
            unfold lpStep
            simp [H1.out, H2.out]
          clear HSJ
          go_wp2
          go_roundw
          case rel => exact ⟨j + 1, a7, n7, c7, O ++ [(kk, vv)], _, by omega, by go_num, rfl, rfl, HS1.out, HO7.out, HLF.out, HB7.out⟩
          case measure => simp [intOf]; omega
        | false =>
          have HLE : Hid (O.length ≤ 1048576) := by show _ ≤ _; have := HL.out; simp at this; omega
          have e0 := (K0.out.below HB2.out).cell (j := 0) rfl
          have e1 := (K0.out.below HB2.out).cell (j := 1) rfl
          have q0 := KP2.out.cell (j := 0) rfl
          have q1 := KP2.out.cell (j := 1) rfl
          have hb := below_new (o := .cells #[.string kk, .string vv] 34) (w := (wr.alloc (.cells #[.string kk, .string vv] 34))) (Below.refl _ _)
          have KS : Hid (Bk ((wr.alloc (.cells #[.string kk, .string vv] 34)).alloc (.cells #[.string kk, .string vv] 34)) (wr.heap.size + 1) 34 [.string kk, .string vv]) := by have := Bk.new (wr.alloc (.cells #[.string kk, .string vv] 34)) 34 [.string kk, .string vv]; show Bk _ _ _ _; simpa using this
          have HOa := hid (HO2.out.kept hb)
          have KPa := hid (KP2.out.below hb)
          have HBa := hid (HB2.out.trans (hb.mono HB2.out.size))
          have HWa := hid (Nat.lt_of_lt_of_le HW2.out hb.size)
          clear hb HO2 HB2
          go_wp2_with (at_builtin; refine wpList_append_pair1 rfl _ _ rfl U.heap.size _ O rfl HOa.out (wr.heap.size + 1) kk vv rfl KS.out ?q1 ?q2 ?_)
          case q1 => exact HLE.out
          case q2 => first | exact HBa.out.size | (have h := HBa.out.size; simp at h; omega)
          intro a7 n7 c7 w7 hO hg hown
          have HO7 : Hid (Ow w7 U.heap.size (.slice a7 n7 c7) (O ++ [(kk, vv)])) := by show Ow _ _ _ _; first | exact hO | simpa using hO
          have HB7 : Hid (Below U.heap.size U w7) := HBa.out.trans (grown_belowB HOa.out hg HBa.out.size)
          have KP7 : Hid (Bk w7 wr.heap.size 34 [.string kk, .string vv]) := KPa.out.to (only_of_grown hg (R := fun y => (Value.slice av nv cv).ownBlock = some y) (fun q hq => hq)) (fun e => by have := (HOL.out _ e).2; omega)
          have HW7 : Hid (wr.heap.size < w7.heap.size) := Nat.lt_of_lt_of_le HWa.out hg.size
          have HOL7 : Hid (∀ y, (Value.slice a7 n7 c7).ownBlock = some y → U.heap.size ≤ y ∧ (y < wr.heap.size ∨ wr.heap.size < y)) := by
            intro y hy
            refine ⟨(World.ownsRow.lt hO y hy).1, ?_⟩
            rcases hown with e | e
            · rw [e] at hy; exact .inl (HOL.out y hy).2
            · rw [e] at hy; cases hy; exact .inr (by have h := HW2.out; first | omega | (simp at h ⊢; omega) | simp)
          clear e0 e1 q0 q1
          clear hO hg hown KS HOa KPa HBa HWa
          have HLF : Hid ((O ++ [(kk, vv)]).length ≤ j + 1 + (if false then 1 else 0)) := by show _ ≤ _; have := HL.out; simp at this ⊢; omega
          clear HOL HOL7
          have HS1 : Hid (lpS l k v gone (j + 1) = (O ++ [(kk, vv)], false)) := by
            show _ = _
            rw [HSJ.out]
            unfold lpStep
            simp [H1.out, H2.out]
          clear HSJ
          go_wp2
          go_roundw
          case rel => exact ⟨j + 1, a7, n7, c7, O ++ [(kk, vv)], _, by omega, by go_num, rfl, rfl, HS1.out, HO7.out, HLF.out, HB7.out⟩
          case measure => simp [intOf]; omega
    · have hlt' : ¬ (j : Int) < (n : Int) := by omega
      have HV : Hid (lpV l k v gone = lpE k v (O, db)) := by
        show _ = _
        unfold lpV
        rw [← HN.out, show n = j by omega, HS.out]
      clear HS
      have e0 := (K0.out.below HB.out).cell (j := 0) rfl
      have e1 := (K0.out.below HB.out).cell (j := 1) rfl
      cases db with
      | true =>
        go_wp2
        go_ret
        exact ⟨_, _, _, rfl, by rw [HV.out]; exact ow_mono HO.out HB0.out.size, HB0.out.trans (HB.out.mono HB0.out.size)⟩
      | false =>
        have HLE : Hid (O.length ≤ 1048576) := by show _ ≤ _; have := HL.out; simp at this; omega
        have hb := below_new (o := .cells #[.string k, .string v] 34) (w := wr) (Below.refl _ _)
        have KS := hid (Bk.new wr 34 [.string k, .string v])
        have HOa := hid (HO.out.kept hb)
        have HBa := hid (HB.out.trans (hb.mono HB.out.size))
        clear hb HO HB
        go_wp2_with (at_builtin; refine wpList_append_pair1 rfl _ _ rfl U.heap.size _ O rfl HOa.out wr.heap.size k v rfl KS.out ?q1 ?q2 ?_)
        case q1 => exact HLE.out
        case q2 => first | exact HBa.out.size | (have h := HBa.out.size; simp at h; omega)
        intro a7 n7 c7 w7 hO hg hown
        have HO7 : Hid (Ow w7 U.heap.size (.slice a7 n7 c7) (O ++ [(k, v)])) := hO
        have HB7 : Hid (Below U.heap.size U w7) := HBa.out.trans (grown_belowB HOa.out hg HBa.out.size)
        clear hO hg hown e0 e1 HOa HBa KS
        go_wp2
        go_ret
        exact ⟨_, _, _, rfl, by rw [HV.out]; exact ow_mono HO7.out HB0.out.size, HB0.out.trans (HB7.out.mono HB0.out.size)⟩
end Go.Proofs.Ytjbamfgfgbmieaa
/-
  RunAsk of the specification: what it leaves.
-/
namespace Go.Proofs.Ytjbamfgfgbmieaa
open Go.RowKit
def RsPost (ok : Bool) (D T : List PB) (w : World) (e : Ending) (w' : World) : Prop :=
  ∃ a n c a2 n2 c2, e = .returned (.tuple #[.slice a n c, .slice a2 n2 c2, .bool ok]) ∧ Ow w' w.heap.size (.slice a n c) D ∧ Ow w' w.heap.size (.slice a2 n2 c2) T ∧ Below w.heap.size w w'
theorem rs_no {w w' : World} (hb : Below w.heap.size w w') : RsPost false [] [] w (.returned (.tuple #[.slice none 0 0, .slice none 0 0, .bool false])) w' := ⟨none, 0, 0, none, 0, 0, rfl, ow_nil _ _, ow_nil _ _, hb⟩
theorem keyF_step (l : List PB) (ky kk vv : ByteArray) (j : Nat) (h : j < l.length) (hp : pAtB l j = (kk, vv)) : keyF (l.take (j + 1)) ky = if kk = ky then keyF (l.take j) ky ++ [(kk, vv)] else keyF (l.take j) ky := by
  unfold keyF
  rw [List.take_succ_eq_append_getElem h, ← pAtB_lt h, hp, List.filter_append]
  by_cases e : kk = ky <;> simp [e]
theorem keyF_len (l : List PB) (ky : ByteArray) (j : Nat) : (keyF (l.take j) ky).length ≤ l.length := by
  unfold keyF
  refine Nat.le_trans (List.length_filter_le _ _) ?_
  rw [List.length_take]
  omega
theorem run_append_prs {w : World} (ty : TypeId) (B : Nat) (v : Value) (l : List PB) (hown : Ow w B v l) (S : Nat → Prop) (a : Option Addr) (n c : Nat) (l2 : List PB) (hsrc : Pr w S (.slice a n c) l2) (hl : l.length + n ≤ 2097152) (hbase : B ≤ w.heap.size) :
    ∃ a' n' c' w', (Builtin.append_ #[23, 23] ty #[v, .slice a n c]).run Try.prog w = .ok (.slice a' n' c') w' ∧ Ow w' B (.slice a' n' c') (l ++ l2) ∧ w.grownBy w' v.ownBlock := by
  obtain ⟨i, hi, hz, hsz, hby⟩ := info_of infoPairI
  have hn := (Rw.len hsrc).1
  obtain ⟨v', w', hr, h2, h3⟩ := run_append_row (P := Try.prog) (w := w) B 23 ty 34 i _ 2 32 Try.underlying23 hi hz hsz hby rfl (by decide) v l.length (pcs l) hown S (.slice a n c) l2.length (pcs l2) hsrc (pcs_length _) (pcs_one _) (by unfold maxLen; omega) (by omega) hbase
  obtain ⟨a', c', rfl⟩ := own_shape h2
  refine ⟨a', _, c', w', hr, ?_, h3⟩
  unfold Ow
  rw [List.length_append, pcs_append]
  exact h2
theorem step_append_prs {w w' : World} {o : Oper} {a : Act} {K : Act → World → Prop} {Q : Exit → Act → World → Prop} (s x : Operand)
    (ho : o.op = .call { callee := .builtin .append, args := #[s, x], argTypes := #[23, 23] }) (v src v' : Value) (hs : a.eval s = v) (hx : a.eval x = src)
    (hr : (Builtin.append_ #[23, 23] o.type #[v, src]).run Try.prog w = .ok v' w') (h : K (a.put o.dst v') w') : Oper.wp Try.prog o a w K Q := by
  unfold Oper.wp execOp
  simp only [ho, resolve, invoke, builtin, Sem.run_bind, Sem.run_pure, Result.andThen_ok, List.map_toArray, List.map_cons, List.map_nil, hs, hx, hr]
  exact h
theorem wpList_append_prs {w : World} {ops : Array Oper} {rest : List Oper} {o : Oper} {a : Act} {Q : Exit → Act → World → Prop} (hgd : o.guard = none) (s x : Operand)
    (ho : o.op = .call { callee := .builtin .append, args := #[s, x], argTypes := #[23, 23] }) (B : Nat) (v : Value) (l : List PB) (hs : a.eval s = v) (hown : Ow w B v l)
    (S : Nat → Prop) (ad : Option Addr) (n c : Nat) (l2 : List PB) (hx : a.eval x = .slice ad n c) (hsrc : Pr w S (.slice ad n c) l2) (hl : l.length + n ≤ 2097152) (hbase : B ≤ w.heap.size)
    (h : ∀ a' n' c' w', Ow w' B (.slice a' n' c') (l ++ l2) → w.grownBy w' v.ownBlock → wpList Try.prog ops Q rest (a.put o.dst (.slice a' n' c')) w') : wpList Try.prog ops Q (o :: rest) a w := by
  refine wpList_plain hgd fun K hK => ?_
  obtain ⟨a', n', c', w', hr, h2, h3⟩ := run_append_prs (w := w) o.type B v l hown S ad n c l2 hsrc hl hbase
  refine step_append_prs s x ho v _ _ hs hx hr ?_
  exact hK _ _ (h a' n' c' w' h2 h3)
end Go.Proofs.Ytjbamfgfgbmieaa
/-
  RunTx: plain.
-/
namespace Go.Proofs.Ytjbamfgfgbmieaa
open Go.RowKit
set_option linter.unusedVariables false
def RY.ok (r : RY) : Bool := akOk r.ak r.ky r.vl r.lo r.hi r.mo r.bk
def RY.D (r : RY) (l : List PB) : List PB := raD l r.ak r.ky r.vl
def RY.T (r : RY) (l : List PB) : List PB := raT l r.ak r.ky r.lo r.hi r.mo r.bk
def rxF : List RY → List PB → Bool → List PB × Bool
  | [], l, g => (l, g)
  | r :: rs, l, g => if r.ok = true then rxF rs (r.D l) (g && decide (r.T l = r.ps)) else ([], false)
def rxV (t : TX) (l : List PB) (rs : List RY) : List PB × Bool := if daOk l = true then rxF (rs.filter (dnR t)) l true else ([], false)
theorem rx_step {t : TX} {rs : List RY} {k : Nat} (h : k < rs.length) (l : List PB) (g : Bool) : rxF ((rs.drop k).filter (dnR t)) l g =
    if dnR t (ryAt rs k) = true then (if (ryAt rs k).ok = true then rxF ((rs.drop (k + 1)).filter (dnR t)) ((ryAt rs k).D l) (g && decide ((ryAt rs k).T l = (ryAt rs k).ps)) else ([], false)) else rxF ((rs.drop (k + 1)).filter (dnR t)) l g := by
  rw [ry_drop h]
  by_cases hd : dnR t (ryAt rs k) = true
  · rw [List.filter_cons_of_pos hd, if_pos hd]; rfl
  · rw [List.filter_cons_of_neg hd, if_neg hd]
theorem rxF_len (rs : List RY) : ∀ l g, (rxF rs l g).1.length ≤ l.length + rs.length := by
  induction rs with
  | nil => intro l g; simp [rxF]
  | cons r rs ih =>
    intro l g
    unfold rxF
    split
    · have h1 := ih (r.D l) (g && decide (r.T l = r.ps))
      have h2 := raD_len l r.ak r.ky r.vl
      simp only [List.length_cons]
      unfold RY.D at h1 ⊢
      omega
    · simp
theorem rxV_len (t : TX) (l : List PB) (rs : List RY) : (rxV t l rs).1.length ≤ l.length + rs.length := by
  unfold rxV
  split
  · have h1 := rxF_len (rs.filter (dnR t)) l true
    have h2 := List.length_filter_le (dnR t) rs
    omega
  · simp
theorem raD_keys {l : List PB} {k : Int} {ky vl : ByteArray} {x : PB} (h : x ∈ raD l k ky vl) : x.1 = ky ∨ x ∈ l := by
  unfold raD at h
  split at h
  · rcases insP_mem h with h | h
    · exact .inl (by rw [h])
    · exact .inr h
  · split at h
    · exact .inr (delP_mem h)
    · exact .inr h
theorem asc_few (KS : List ByteArray) (D : List PB) (h : Asc D) (hk : ∀ p ∈ D, p.1 ∈ KS) : D.length ≤ KS.length := by
  induction D generalizing KS with
  | nil => exact Nat.zero_le _
  | cons p D ih =>
    have h1 := hk p (by simp)
    have h2 := ih (KS.filter (fun k => decide (k ≠ p.1))) (asc_tail h) (fun q hq => by
      have h3 := asc_lt h hq
      have h4 : q.1 ≠ p.1 := fun e => klt_ne h3 e.symm
      exact List.mem_filter.2 ⟨hk q (by simp [hq]), by simpa using h4⟩)
    have h5 : (KS.filter (fun k => decide (k ≠ p.1))).length < KS.length := List.length_filter_lt_length_iff_exists.2 ⟨p.1, h1, by simp⟩
    rw [List.length_cons]
    omega
/-- The data's keys are of KS, which are few. -/
def KsD (KS : List ByteArray) (D : List PB) : Prop := ∀ p ∈ D, p.1 ∈ KS
theorem KsD.few {KS : List ByteArray} {D : List PB} (h : KsD KS D) (hd : daOk D = true) (hK : KS.length ≤ 1048576) : D.length ≤ 1048576 := Nat.le_trans (asc_few KS D (daOk_asc hd) h) hK
theorem KsD.raD {KS : List ByteArray} {D : List PB} {k : Int} {ky vl : ByteArray} (h : KsD KS D) (hk : ky ∈ KS) : KsD KS (raD D k ky vl) := fun p hp => by
  rcases raD_keys hp with e | e
  · rw [e]; exact hk
  · exact h p e
theorem rxF_ks {KS : List ByteArray} (rs : List RY) (hr : ∀ r ∈ rs, r.ky ∈ KS) : ∀ l g, KsD KS l → KsD KS (rxF rs l g).1 := by
  induction rs with
  | nil => intro l g h; exact h
  | cons r rs ih =>
    intro l g h
    unfold rxF
    split
    · exact ih (fun r hr' => hr r (by simp [hr'])) _ _ (h.raD (hr r (by simp)))
    · intro p hp; cases hp
theorem rxV_ks {KS : List ByteArray} {t : TX} {l : List PB} {rs : List RY} (hr : ∀ r ∈ rs, r.ky ∈ KS) (h : KsD KS l) : KsD KS (rxV t l rs).1 := by
  unfold rxV
  split
  · exact rxF_ks _ (fun r hr' => hr r (List.mem_filter.1 hr').1) _ _ h
  · intro p hp; cases hp
theorem rxF_da (rs : List RY) : ∀ l g, daOk l = true → daOk (rxF rs l g).1 = true := by
  induction rs with
  | nil => intro l g h; exact h
  | cons r rs ih =>
    intro l g h
    unfold rxF
    split
    · rename_i hk
      exact ih _ _ (raD_da h hk)
    · rfl
theorem rxV_da (t : TX) (l : List PB) (rs : List RY) : daOk (rxV t l rs).1 = true := by
  unfold rxV
  split
  · rename_i h
    exact rxF_da _ _ _ h
  · rfl
def RxPost (D : List PB) (g : Bool) (w : World) (e : Ending) (w' : World) : Prop :=
  ∃ a n c, e = .returned (.tuple #[.slice a n c, .bool g]) ∧ Ow w' w.heap.size (.slice a n c) D ∧ Below w.heap.size w w'
theorem rx_no {w w' : World} (hb : Below w.heap.size w w') : RxPost [] false w (.returned (.tuple #[.slice none 0 0, .bool false])) w' := ⟨none, 0, 0, rfl, ow_nil _ _, hb⟩
end Go.Proofs.Ytjbamfgfgbmieaa
/-
  Rows of names of transactions as plain data, and in memory.
-/
namespace Go.Proofs.Ytjbamfgfgbmieaa
open Go.RowKit
set_option linter.unusedVariables false
abbrev TQ := Int × Int × Int
def tq0 : TQ := (0, 0, 0)
def tqAt (l : List TQ) (i : Nat) : TQ := l[i]?.getD tq0
theorem tqAt_mem {l : List TQ} {i : Nat} (h : i < l.length) : tqAt l i ∈ l := by simp [tqAt, h]
/-- The cells of a row. -/
def tqcs : List TQ → List Value
  | [] => []
  | p :: ps => .int .i64 p.1 :: .int .i64 p.2.1 :: .int .i64 p.2.2 :: tqcs ps
theorem tqcs_length (l : List TQ) : (tqcs l).length = l.length * 3 := by
  induction l with
  | nil => rfl
  | cons p ps ih => simp [tqcs, ih]; omega
theorem tqcs_append (l r : List TQ) : tqcs (l ++ r) = tqcs l ++ tqcs r := by
  induction l with
  | nil => rfl
  | cons p ps ih => simp only [tqcs, List.cons_append, ih]
theorem tqcs_take (l : List TQ) : ∀ k, tqcs (l.take k) = (tqcs l).take (k * 3) := by
  induction l with
  | nil => intro k; simp [tqcs]
  | cons p ps ih =>
    intro k
    cases k with
    | zero => rfl
    | succ k =>
      rw [show (k + 1) * 3 = k * 3 + 3 by omega]
      simp only [List.take_succ_cons, tqcs, ih]
theorem tqcs_at (l : List TQ) : ∀ i, i < l.length → (tqcs l)[i * 3]? = some (.int .i64 (tqAt l i).1) ∧ (tqcs l)[i * 3 + 1]? = some (.int .i64 (tqAt l i).2.1) ∧ (tqcs l)[i * 3 + 2]? = some (.int .i64 (tqAt l i).2.2) := by
  induction l with
  | nil => intro i h; exact absurd h (Nat.not_lt_zero _)
  | cons p ps ih =>
    intro i h
    cases i with
    | zero => exact ⟨rfl, rfl, rfl⟩
    | succ i =>
      have := ih i (by simpa using h)
      rw [show (i + 1) * 3 = i * 3 + 3 by omega, show i * 3 + 3 + 1 = i * 3 + 1 + 3 by omega, show i * 3 + 3 + 2 = i * 3 + 2 + 3 by omega]
      exact this
theorem tqcs_set (l : List TQ) (p : TQ) : ∀ j, j < l.length → tqcs (l.set j p) = ((((tqcs l).set (j * 3) (.int .i64 p.1)).set (j * 3 + 1) (.int .i64 p.2.1)).set (j * 3 + 2) (.int .i64 p.2.2)) := by
  induction l with
  | nil => intro j h; exact absurd h (Nat.not_lt_zero _)
  | cons q l ih =>
    intro i h
    cases i with
    | zero => rfl
    | succ i =>
      have := ih i (by simpa using h)
      rw [show (i + 1) * 3 = i * 3 + 3 by omega, show i * 3 + 3 + 1 = i * 3 + 1 + 3 by omega, show i * 3 + 3 + 2 = i * 3 + 2 + 3 by omega]
      show Value.int .i64 q.1 :: Value.int .i64 q.2.1 :: Value.int .i64 q.2.2 :: tqcs (l.set i p) = _
      rw [this]
      rfl
theorem tqcs_one (l : List TQ) : ∀ u ∈ tqcs l, u.oneCell' = true := by
  induction l with
  | nil => intro u hu; cases hu
  | cons p ps ih =>
    intro u hu
    simp only [tqcs, List.mem_cons] at hu
    rcases hu with rfl | rfl | rfl | hu
    · rfl
    · rfl
    · rfl
    · exact ih u hu
/-- The slice value v leads to the row l. -/
def tqR (w : World) (S : Nat → Prop) (v : Value) (l : List TQ) : Prop := Rw w S v l.length (tqcs l)
theorem tqR.to {w w' : World} {S R : Nat → Prop} {v : Value} {l : List TQ} (h : tqR w S v l) (ho : Only R w w') (hd : ∀ b, S b → b < w.heap.size → ¬ R b) : tqR w' S v l := Rw.to h ho hd
theorem tqR.below {w w' : World} {S : Nat → Prop} {v : Value} {l : List TQ} (h : tqR w S v l) (hb : Below w.heap.size w w') : tqR w' S v l := Rw.to h (only_of_below hb (fun _ => False)) (fun _ _ _ h => h)
theorem tqR.mono {w : World} {S R : Nat → Prop} {v : Value} {l : List TQ} (h : tqR w S v l) (hd : ∀ b, S b → b < w.heap.size → R b) : tqR w R v l := Rw.mono h hd
theorem tqR.len {w : World} {S : Nat → Prop} {a : Option Addr} {n c : Nat} {l : List TQ} (h : tqR w S (.slice a n c) l) : n = l.length ∧ n ≤ c ∧ c ≤ 9223372036854775807 := Rw.len h
theorem tqR.at {w : World} {S : Nat → Prop} {a : Option Addr} {n c : Nat} {l : List TQ} (h : tqR w S (.slice a n c) l) (hp : 0 < n) : ∃ b off, a = some ⟨b, off, none⟩ ∧ S b ∧ b < w.heap.size ∧
    ∀ i, i < n → w.cell? ⟨b, off + i * 3, none⟩ = some (.int .i64 (tqAt l i).1) ∧ w.cell? ⟨b, off + i * 3 + 1, none⟩ = some (.int .i64 (tqAt l i).2.1) ∧ w.cell? ⟨b, off + i * 3 + 2, none⟩ = some (.int .i64 (tqAt l i).2.2) := by
  obtain ⟨b, off, h1, h2, h3, h4⟩ := Rw.at h hp
  refine ⟨b, off, h1, h2, h3, fun i hi => ?_⟩
  have hn := h.len.1
  obtain ⟨k0, k1, k2⟩ := tqcs_at l i (by omega)
  exact ⟨h4 _ _ k0, by rw [Nat.add_assoc]; exact h4 _ _ k1, by rw [Nat.add_assoc]; exact h4 _ _ k2⟩
theorem tqr_nil (w : World) (S : Nat → Prop) : tqR w S (.slice none 0 0) [] := rw_nil w S
/-- A row of one's own. -/
def tqW (w : World) (B : Nat) (v : Value) (l : List TQ) : Prop := w.ownsRow B 48 3 v l.length (tqcs l)
theorem tqW.to {w w' : World} {B : Nat} {R : Nat → Prop} {v : Value} {l : List TQ} (h : tqW w B v l) (ho : Only R w w') (hR : ∀ y, v.ownBlock = some y → ¬ R y) : tqW w' B v l := own_kept h ho hR
theorem tqW.below {w w' : World} {B : Nat} {v : Value} {l : List TQ} (h : tqW w B v l) (hb : Below w.heap.size w w') : tqW w' B v l := h.to (only_of_below hb (fun _ => False)) (fun _ _ h => h)
theorem tqW.base {w : World} {B B' : Nat} {v : Value} {l : List TQ} (h : tqW w B v l) (hB : B' ≤ B) : tqW w B' v l := by
  refine ⟨h.1, h.2.imp id ?_⟩
  rintro ⟨g, cap, cur, k1, k2, k3⟩
  exact ⟨g, cap, cur, k1, by omega, k3⟩
theorem tqW.lt {w : World} {B : Nat} {v : Value} {l : List TQ} (h : tqW w B v l) {y : Nat} (hy : v.ownBlock = some y) : B ≤ y ∧ y < w.heap.size := World.ownsRow.lt h y hy
theorem tqW.r {w : World} {B : Nat} {v : Value} {l : List TQ} (h : tqW w B v l) : tqR w (fun _ => True) v l := rw_own h (fun _ _ _ _ => trivial)
theorem tqw_nil (w : World) (B : Nat) : tqW w B (.slice none 0 0) [] := World.ownsRow_nil _ _ _ _
theorem tqw_bk {w : World} {g B : Nat} {l : List TQ} {n : Nat} (h : Bk w g 48 (tqcs l)) (hl : n = l.length) (hn : n ≤ 1048577) (hB : B ≤ g) : tqW w B (.slice (some ⟨g, 0, none⟩) n n) l := by
  subst hl
  exact ⟨tqcs_length l, .inr ⟨g, l.length, (tqcs l).toArray, rfl, hB, h, Nat.le_refl _, by unfold maxLen; omega, by simpa using tqcs_length l, by simp [← tqcs_length l]⟩⟩
theorem Bk.tqr {w : World} {g n : Nat} {T : TypeId} {l : List TQ} (h : Bk w g T (tqcs l)) (hn : n = l.length) (hc : n ≤ 9223372036854775807) (S : Nat → Prop) (hS : S g) : tqR w S (.slice (some ⟨g, 0, none⟩) n n) l := by
  subst hn
  exact h.rw (Nat.le_refl _) hc (fun h0 => by rw [List.eq_nil_of_length_eq_zero h0]; rfl) S hS
theorem tqInfo : (Try.prog.info? 48).map (fun i => (i.zero, i.size, i.bytes)) = some (some (.agg #[.int .i64 0, .int .i64 0, .int .i64 0]), 3, 24) := by kernel_rfl
theorem tq_made (n : Nat) : madeCells (Value.agg #[.int .i64 0, .int .i64 0, .int .i64 0]).cells (n * 3) = (tqcs (List.replicate n tq0)).toArray := by
  apply Array.ext
  · simp [madeCells, tqcs_length]
  · intro i h1 h2
    simp [tqcs_length] at h2
    simp only [madeCells, List.getElem_toArray]
    have hq : tqAt (List.replicate n tq0) (i / 3) = tq0 := by simp [tqAt, show i / 3 < n by omega]
    have h0 := tqcs_at (List.replicate n tq0) (i / 3) (by simp; omega)
    rw [hq] at h0
    have h3 : i % 3 = 0 ∨ i % 3 = 1 ∨ i % 3 = 2 := by omega
    rcases h3 with e | e | e
    · have h4 := List.getElem?_eq_some_iff.1 (show (tqcs (List.replicate n tq0))[i]? = some (.int .i64 0) by rw [show i / 3 * 3 = i by omega] at h0; exact h0.1)
      rw [h4.2]
      simp [Value.cells, e]
    · have h4 := List.getElem?_eq_some_iff.1 (show (tqcs (List.replicate n tq0))[i]? = some (.int .i64 0) by rw [show i / 3 * 3 + 1 = i by omega] at h0; exact h0.2.1)
      rw [h4.2]
      simp [Value.cells, e]
    · have h4 := List.getElem?_eq_some_iff.1 (show (tqcs (List.replicate n tq0))[i]? = some (.int .i64 0) by rw [show i / 3 * 3 + 2 = i by omega] at h0; exact h0.2.2)
      rw [h4.2]
      simp [Value.cells, e]
/-- The row as far as copied. -/
def tqPt (l : List TQ) (k : Nat) : List TQ := l.take k ++ List.replicate (l.length - k) tq0
theorem tqPt_length (l : List TQ) (k : Nat) (h : k ≤ l.length) : (tqPt l k).length = l.length := by simp [tqPt]; omega
theorem tqPt_set (l : List TQ) (k : Nat) (h : k < l.length) : (tqPt l k).set k (tqAt l k) = tqPt l (k + 1) := by
  have e : tqAt l k = l[k] := by simp [tqAt, h]
  rw [e]
  have hl : (l.take k).length = k := by simp; omega
  simp only [tqPt]
  rw [List.set_append_right _ _ (by omega), hl]
  have h2 : l.length - k = (l.length - (k + 1)) + 1 := by omega
  rw [List.take_succ_eq_append_getElem h, h2, List.replicate_succ, Nat.sub_self, List.set_cons_zero, List.append_assoc]
  rfl
end Go.Proofs.Ytjbamfgfgbmieaa
/-
  Serial: plain.
-/
namespace Go.Proofs.Ytjbamfgfgbmieaa
open Go.RowKit
set_option linter.unusedVariables false
def seF (rs : List RY) : List TQ → List PB → List PB × Bool
  | [], l => (l, true)
  | t :: ts, l => if (rxV t l rs).2 = true then seF rs ts (rxV t l rs).1 else ([], false)
theorem tq_drop {l : List TQ} {k : Nat} (h : k < l.length) : l.drop k = tqAt l k :: l.drop (k + 1) := by
  rw [List.drop_eq_getElem_cons h]
  simp [tqAt, h]
theorem se_yes {rs : List RY} {ts : List TQ} {k : Nat} (h : k < ts.length) (l : List PB) (hk : (rxV (tqAt ts k) l rs).2 = true) : seF rs (ts.drop k) l = seF rs (ts.drop (k + 1)) (rxV (tqAt ts k) l rs).1 := by
  rw [tq_drop h]; exact if_pos hk
theorem se_bad {rs : List RY} {ts : List TQ} {k : Nat} (h : k < ts.length) (l : List PB) (hk : (rxV (tqAt ts k) l rs).2 = false) : seF rs (ts.drop k) l = ([], false) := by
  rw [tq_drop h]; exact if_neg (by rw [hk]; simp)
theorem seF_ks {KS : List ByteArray} {rs : List RY} (hr : ∀ r ∈ rs, r.ky ∈ KS) (ts : List TQ) : ∀ l, KsD KS l → KsD KS (seF rs ts l).1 := by
  induction ts with
  | nil => intro l h; exact h
  | cons t ts ih =>
    intro l h
    unfold seF
    split
    · exact ih _ (rxV_ks hr h)
    · intro p hp; cases hp
theorem seF_da {rs : List RY} (ts : List TQ) : ∀ l, daOk l = true → daOk (seF rs ts l).1 = true := by
  induction ts with
  | nil => intro l h; exact h
  | cons t ts ih =>
    intro l h
    unfold seF
    split
    · exact ih _ (rxV_da _ _ _)
    · rfl
theorem ksd_nil (KS : List ByteArray) : KsD KS [] := fun p hp => by cases hp
theorem seF_len (rs : List RY) (ts : List TQ) : (seF rs ts []).1.length ≤ rs.length := by
  have h1 : KsD (rs.map (·.ky)) (seF rs ts []).1 := seF_ks (fun r hr => List.mem_map_of_mem hr) ts [] (fun p hp => by cases hp)
  have h2 := asc_few _ _ (daOk_asc (seF_da (rs := rs) ts [] rfl)) h1
  rwa [List.length_map] at h2
end Go.Proofs.Ytjbamfgfgbmieaa
/-
  Outcome and Asked of the specification.
-/
namespace Go.Proofs.Ytjbamfgfgbmieaa
open Go.RowKit
set_option linter.unusedVariables false
end Go.Proofs.Ytjbamfgfgbmieaa
/-
  RunAsk of the specification: get.
-/
namespace Go.Proofs.Ytjbamfgfgbmieaa
open Go.RowKit
set_option maxHeartbeats 8000000 in
set_option maxRecDepth 20000 in
theorem specRunAsk_1 (S : Nat → Prop) (a : Option Addr) (n c : Nat) (l : List PB) (ky vl lo hi : ByteArray) (mo : Int) (w : World) (h : Pr w S (.slice a n c) l) (hs : n ≤ 1048576) (hd : daOk l = true) (hk : akOk 1 ky vl lo hi mo false = true) :
    Calls Try.prog 8 #[.slice a n c, .agg #[.int .i64 1, .string ky, .string vl, .string lo, .string hi, .int .i64 mo, .bool false]] w fun e w' => RsPost true (raD l 1 ky vl) (raT l 1 ky lo hi mo false) w e w' := by
  have hb := below_new (o := .cells #[.int .i64 1, .string ky, .string vl, .string lo, .string hi, .int .i64 mo, .bool false] 27) (w := w) (Below.refl _ _)
  have HBU := hid hb
  have K0 := hid (Bk.new w 27 [.int .i64 1, .string ky, .string vl, .string lo, .string hi, .int .i64 mo, .bool false])
  have P0 := hid (h.below' hb)
  have HN := hid (Rw.len h).1
  have HD := hid hd
  have HK := hid hk
  clear hb h hd hk
  have k0 := K0.out.cell (j := 0) rfl
  have k1 := K0.out.cell (j := 1) rfl
  have k2 := K0.out.cell (j := 2) rfl
  have k3 := K0.out.cell (j := 3) rfl
  have k4 := K0.out.cell (j := 4) rfl
  have k5 := K0.out.cell (j := 5) rfl
  have k6 := K0.out.cell (j := 6) rfl
  go_enter Try.func8, Try.ntmps8
  go_wp2_with fail
  refine (specDataOk_at S a n c l _ P0.out (by omega)).mono ?_
  have HUZ : Hid ((w.alloc (.cells #[.int .i64 1, .string ky, .string vl, .string lo, .string hi, .int .i64 mo, .bool false] 27)).heap.size = w.heap.size + 1) := by show _ = _; simp
  generalize hU : w.alloc (.cells #[.int .i64 1, .string ky, .string vl, .string lo, .string hi, .int .i64 mo, .bool false] 27) = U at *
  clear hU
  rintro e w1 ⟨rfl, hb⟩
  have HB1 := hid hb
  clear hb k0 k1 k2 k3 k4 k5 k6
  rw [HD.out]
  have k0 := (K0.out.below HB1.out).cell (j := 0) rfl
  have k1 := (K0.out.below HB1.out).cell (j := 1) rfl
  have k2 := (K0.out.below HB1.out).cell (j := 2) rfl
  have k3 := (K0.out.below HB1.out).cell (j := 3) rfl
  have k4 := (K0.out.below HB1.out).cell (j := 4) rfl
  have k5 := (K0.out.below HB1.out).cell (j := 5) rfl
  have k6 := (K0.out.below HB1.out).cell (j := 6) rfl
  go_wp2_with fail
  refine (specAskOk_any 1 ky vl lo hi mo false _).mono ?_
  rintro e w2 ⟨rfl, hb⟩
  have HB2 := hid (HB1.out.trans (hb.mono HB1.out.size))
  clear hb HB1 k0 k1 k2 k3 k4 k5 k6
  rw [HK.out]
  have k0 := (K0.out.below HB2.out).cell (j := 0) rfl
  have k1 := (K0.out.below HB2.out).cell (j := 1) rfl
  have k2 := (K0.out.below HB2.out).cell (j := 2) rfl
  have k3 := (K0.out.below HB2.out).cell (j := 3) rfl
  have k4 := (K0.out.below HB2.out).cell (j := 4) rfl
  have k5 := (K0.out.below HB2.out).cell (j := 5) rfl
  have k6 := (K0.out.below HB2.out).cell (j := 6) rfl
  have HDD : Hid (raD l 1 ky vl = l) := rfl
  have HT : Hid (raT l 1 ky lo hi mo false = (keyF (l.take n) ky)) := by show _ = _; rw [HN.out, List.take_length]; rfl
  have hbn := below_new (o := .cells #[] 34) (w := w2) (Below.refl _ _)
  have HO3 := hid (ow_new w2 w2.heap.size (Nat.le_refl _))
  have HBV := hid hbn
  clear hbn
  go_wp2_with fail
  go_loopw [7, 8, 9, 41] (fun x z y i wr => ∃ (j : Nat) (av : Option Addr) (nv cv : Nat), j ≤ n ∧ i = .int .i64 j ∧ x = .slice av nv cv ∧ Hid (nv = (keyF (l.take j) ky).length) ∧ Hid (Ow wr w2.heap.size (.slice av nv cv) (keyF (l.take j) ky)) ∧ Hid (Below w2.heap.size w2 wr)) (fun _ _ _ i _ => n - (intOf i).toNat)
  case atStart => exact ⟨0, _, 0, 0, Nat.zero_le _, rfl, rfl, by show _ = _; simp [keyF], by show Ow _ _ _ _; simpa [keyF] using HO3.out, HBV.out⟩
  case round =>
    obtain ⟨j, av, nv, cv, hj, rfl, rfl, HNV, HO, HBW⟩ := hrel
    clear HO3 HBV k0 k1 k2 k3 k4 k5 k6
    have HB := hid (HB2.out.trans (HBW.out.mono HB2.out.size))
    by_cases hlt : j < n
    · have hlt' : (j : Int) < (n : Int) := by omega
      have hj0 : (0 : Int) ≤ (j : Int) := by omega
      have HLE : Hid ((keyF (l.take j) ky).length ≤ 1048576) := by show _ ≤ _; have h1 := keyF_len l ky j; have h2 := HN.out; omega
      have PJ := hid (P0.out.below' HB.out)
      obtain ⟨b, off, rfl, _, hbw, hcell⟩ := PJ.out.at (by omega)
      obtain ⟨d0, d1⟩ := hcell j hlt
      have hcv := (Rw.len (HO.out.pr (S := fun _ => True) (fun _ _ _ _ => trivial))).2
      have HPJ : Hid (pAtB (dirL false l) j = pAtB l j) := rfl
      have HSD := hid (fun kk vv hp => keyF_step l ky kk vv j (by rw [← HN.out]; exact hlt) hp)
      clear hcell hbw PJ HPJ
      generalize hcur : pAtB l j = cur at *
      obtain ⟨kk, vv⟩ := cur
      have HSD2 := hid (HSD.out kk vv rfl)
      clear HSD hcur
      simp only at d0 d1
      have hbp := below_new (o := .cells #[.string kk, .string vv] 34) (w := wr) (Below.refl _ _)
      have KP := hid (Bk.new wr 34 [.string kk, .string vv])
      have HOP := hid (HO.out.kept hbp)
      have HBP := hid (HBW.out.trans (hbp.mono HBW.out.size))
      have HB4 := hid (HB2.out.trans (HBP.out.mono HB2.out.size))
      clear hbp
      have k0 := (K0.out.below HB4.out).cell (j := 0) rfl
      have k1 := (K0.out.below HB4.out).cell (j := 1) rfl
      have k2 := (K0.out.below HB4.out).cell (j := 2) rfl
      have k3 := (K0.out.below HB4.out).cell (j := 3) rfl
      have k4 := (K0.out.below HB4.out).cell (j := 4) rfl
      have k5 := (K0.out.below HB4.out).cell (j := 5) rfl
      have k6 := (K0.out.below HB4.out).cell (j := 6) rfl
      have q0 := KP.out.cell (j := 0) rfl
      have q1 := KP.out.cell (j := 1) rfl
      by_cases hc : kk = ky
      · have HC := hid hc
        have hc' := hc.symm
        subst hc'
        clear hc
        have hb := below_new (o := .cells #[.string ky, .string vv] 34) (w := (wr.alloc (.cells #[.string ky, .string vv] 34))) (Below.refl _ _)
        have KS : Hid (Bk ((wr.alloc (.cells #[.string ky, .string vv] 34)).alloc (.cells #[.string ky, .string vv] 34)) (wr.heap.size + 1) 34 [.string ky, .string vv]) := by have := Bk.new (wr.alloc (.cells #[.string ky, .string vv] 34)) 34 [.string ky, .string vv]; show Bk _ _ _ _; simpa using this
        have HOa := hid (HOP.out.kept hb)
        have HBa := hid (HBP.out.trans (hb.mono HBP.out.size))
        clear hb
        have HSF : Hid ((keyF (l.take (j + 1)) ky) = (keyF (l.take j) ky) ++ [(ky, vv)]) := by show _ = _; rw [HSD2.out, if_pos HC.out]
        clear HSD2 HC
        go_wp2_with (at_builtin; refine wpList_append_pair1 rfl _ _ rfl w2.heap.size _ (keyF (l.take j) ky) rfl HOa.out (wr.heap.size + 1) ky vv rfl KS.out ?q1 ?q2 ?_)
        case q1 => exact HLE.out
        case q2 => first | exact HBa.out.size | (have h := HBa.out.size; simp at h; omega)
        intro a7 n7 c7 w7 hO hg hown
        have HO7 : Hid (Ow w7 w2.heap.size (.slice a7 n7 c7) ((keyF (l.take j) ky) ++ [(ky, vv)])) := hO
        have HB7 : Hid (Below w2.heap.size w2 w7) := HBa.out.trans (grown_belowB HOa.out hg HBa.out.size)
        obtain ⟨_, _, _, hsh, hn7⟩ := hO.shape'
        cases hsh
        have HN7 := hid hn7.out
        clear hO hg hown hn7 HOa HBa KS k0 k1 k2 k3 k4 k5 k6 q0 q1
        rw [← HSF.out] at HO7 HN7
        generalize hg9 : (keyF (l.take (j + 1)) ky) = Z at *
        have HG9 := hid hg9
        clear hg9
        go_wp2
        go_roundw
        case rel => exact ⟨j + 1, a7, n7, c7, by omega, by go_num, rfl, by rw [HG9.out]; exact HN7.out, by rw [HG9.out]; exact HO7.out, HB7.out⟩
        case measure => simp [intOf]; omega
      · have HC := hid hc
        have t := str_beq hc
        clear hc
        have HSF : Hid ((keyF (l.take (j + 1)) ky) = (keyF (l.take j) ky)) := by show _ = _; rw [HSD2.out, if_neg HC.out]
        clear HSD2 HC
        go_wp2
        go_roundw
        case rel => exact ⟨j + 1, av, nv, cv, by omega, by go_num, rfl, by rw [HSF.out]; exact HNV.out, by rw [HSF.out]; exact HOP.out, HBP.out⟩
        case measure => simp [intOf]; omega
    · have hlt' : ¬ (j : Int) < (n : Int) := by omega
      obtain rfl : j = n := by omega
      have hb := below_new (o := .cells #[] 34) (w := wr) (Below.refl _ _)
      have HSE : Hid (∀ q, (Value.slice av nv cv).ownBlock = some q → q < wr.heap.size) := fun q hq => (World.ownsRow.lt HO.out q hq).2
      have HN1 := hid (ow_new wr w2.heap.size HBW.out.size)
      have HO1 := hid (HO.out.kept hb)
      have HBa := hid (HBW.out.trans (hb.mono HBW.out.size))
      have PA := hid (P0.out.below' (HB2.out.trans (HBa.out.mono HB2.out.size)))
      have hcv := (Rw.len (HO.out.pr (S := fun _ => True) (fun _ _ _ _ => trivial))).2
      clear hb HO HBW HB
      go_wp2_with (at_builtin; refine wpList_append_prs rfl _ _ rfl w2.heap.size _ [] rfl HN1.out S a j c l rfl PA.out (by simp; omega) ?q2 ?_)
      case q2 => first | exact HBa.out.size | (have h := HBa.out.size; simp at h; omega)
      intro a7 n7 c7 w7 hO hg
      have HO7 : Hid (Ow w7 w2.heap.size (.slice a7 n7 c7) l) := by show Ow _ _ _ _; first | exact hO | simpa using hO
      have HB7 : Hid (Below w2.heap.size w2 w7) := HBa.out.trans (grown_belowB HN1.out hg HBa.out.size)
      have HT7 : Hid (Ow w7 w2.heap.size (.slice av nv cv) (keyF (l.take j) ky)) := HO1.out.to (only_of_grown hg (R := fun y => y = wr.heap.size) (fun q hq => by cases hq; rfl)) (fun q hq e => by have := HSE.out q hq; omega)
      clear hO hg HN1 HO1 HBa PA
      go_wp2
      go_ret3
      rw [HT.out, HDD.out]
      exact ⟨_, _, _, _, _, _, rfl, ow_mono HO7.out (Nat.le_trans HBU.out.size HB2.out.size), ow_mono HT7.out (Nat.le_trans HBU.out.size HB2.out.size), HBU.out.trans ((HB2.out.trans (HB7.out.mono HB2.out.size)).mono HBU.out.size)⟩
end Go.Proofs.Ytjbamfgfgbmieaa
/-
  RunAsk of the specification: put and del.
-/
namespace Go.Proofs.Ytjbamfgfgbmieaa
open Go.RowKit
set_option maxHeartbeats 8000000 in
set_option maxRecDepth 20000 in
theorem specRunAsk_2 (S : Nat → Prop) (a : Option Addr) (n c : Nat) (l : List PB) (ky vl lo hi : ByteArray) (mo : Int) (bk : Bool) (w : World) (h : Pr w S (.slice a n c) l) (hs : n ≤ 1048576) (hd : daOk l = true) (hk : akOk 2 ky vl lo hi mo bk = true) :
    Calls Try.prog 8 #[.slice a n c, .agg #[.int .i64 2, .string ky, .string vl, .string lo, .string hi, .int .i64 mo, .bool bk]] w fun e w' => RsPost true (raD l 2 ky vl) (raT l 2 ky lo hi mo bk) w e w' := by
  have hb := below_new (o := .cells #[.int .i64 2, .string ky, .string vl, .string lo, .string hi, .int .i64 mo, .bool bk] 27) (w := w) (Below.refl _ _)
  have HBU := hid hb
  have K0 := hid (Bk.new w 27 [.int .i64 2, .string ky, .string vl, .string lo, .string hi, .int .i64 mo, .bool bk])
  have P0 := hid (h.below' hb)
  have HN := hid (Rw.len h).1
  have HD := hid hd
  have HK := hid hk
  clear hb h hd hk
  have k0 := K0.out.cell (j := 0) rfl
  have k1 := K0.out.cell (j := 1) rfl
  have k2 := K0.out.cell (j := 2) rfl
  have k3 := K0.out.cell (j := 3) rfl
  have k4 := K0.out.cell (j := 4) rfl
  have k5 := K0.out.cell (j := 5) rfl
  have k6 := K0.out.cell (j := 6) rfl
  go_enter Try.func8, Try.ntmps8
  go_wp2_with fail
  refine (specDataOk_at S a n c l _ P0.out (by omega)).mono ?_
  have HUZ : Hid ((w.alloc (.cells #[.int .i64 2, .string ky, .string vl, .string lo, .string hi, .int .i64 mo, .bool bk] 27)).heap.size = w.heap.size + 1) := by show _ = _; simp
  generalize hU : w.alloc (.cells #[.int .i64 2, .string ky, .string vl, .string lo, .string hi, .int .i64 mo, .bool bk] 27) = U at *
  clear hU
  rintro e w1 ⟨rfl, hb⟩
  have HB1 := hid hb
  clear hb k0 k1 k2 k3 k4 k5 k6
  rw [HD.out]
  have k0 := (K0.out.below HB1.out).cell (j := 0) rfl
  have k1 := (K0.out.below HB1.out).cell (j := 1) rfl
  have k2 := (K0.out.below HB1.out).cell (j := 2) rfl
  have k3 := (K0.out.below HB1.out).cell (j := 3) rfl
  have k4 := (K0.out.below HB1.out).cell (j := 4) rfl
  have k5 := (K0.out.below HB1.out).cell (j := 5) rfl
  have k6 := (K0.out.below HB1.out).cell (j := 6) rfl
  go_wp2_with fail
  refine (specAskOk_any 2 ky vl lo hi mo bk _).mono ?_
  rintro e w2 ⟨rfl, hb⟩
  have HB2 := hid (HB1.out.trans (hb.mono HB1.out.size))
  clear hb HB1 k0 k1 k2 k3 k4 k5 k6
  rw [HK.out]
  have k0 := (K0.out.below HB2.out).cell (j := 0) rfl
  have k1 := (K0.out.below HB2.out).cell (j := 1) rfl
  have k2 := (K0.out.below HB2.out).cell (j := 2) rfl
  have k3 := (K0.out.below HB2.out).cell (j := 3) rfl
  have k4 := (K0.out.below HB2.out).cell (j := 4) rfl
  have k5 := (K0.out.below HB2.out).cell (j := 5) rfl
  have k6 := (K0.out.below HB2.out).cell (j := 6) rfl
  have HT : Hid (raT l 2 ky lo hi mo bk = []) := rfl
  have HDD : Hid (raD l 2 ky vl = lpV l ky vl false) := (lpV_put (daOk_asc HD.out) ky vl).symm
  have T0 := hid (kl3_0 k0 k1 k2)
  go_wp2_with fail
  refine wp_region_noPanic ?_
  refine wp_region_held_drew (S := fun v => v.cell? ⟨w.heap.size, 0, none⟩ = some (.int .i64 2) ∧ v.cell? ⟨w.heap.size, 1, none⟩ = some (.string ky) ∧ v.cell? ⟨w.heap.size, 2, none⟩ = some (.string vl) ∧ KL w2 v [(⟨w.heap.size, 0, none⟩, .int .i64 2), (⟨w.heap.size, 1, none⟩, .string ky), (⟨w.heap.size, 2, none⟩, .string vl)]) (by kernel_rfl) (kl3 (T0.out.call (below_drew _))) (fun hHeld => ?_)
  simp only [List.size_toArray, List.length_cons, List.length_nil, Array.replicate_succ, Array.replicate_zero, Nat.reduceAdd, List.push_toArray, List.nil_append, List.cons_append]
  refine wpAnyH_take (i := 1) (v := (.slice a n c)) rfl (by kernel_rfl) (by kernel_rfl) (by kernel_rfl) (fun _ _ _ h => h) (Or.inl ⟨by rfl, ?_⟩) (by assumption) ?_
  · intro w hSw
    (try dsimp only at hSw)
    go_simp
  try simp only [List.getElem_toArray]
  try simp only [List.getElem_cons_succ]
  try simp only [List.getElem_cons_zero]
  try simp only [Act.put]
  try simp only [List.setIfInBounds_toArray]
  try simp only [List.set_cons_succ]
  try simp only [List.set_cons_zero]
  refine wpAnyH_take (i := 3) (v := (.pointer (some ⟨w.heap.size, 1, none⟩))) rfl (by kernel_rfl) (by kernel_rfl) (by kernel_rfl) (fun _ _ _ h => h) (Or.inl ⟨by rfl, ?_⟩) (by assumption) ?_
  · intro w hSw
    (try dsimp only at hSw)
    go_simp
  try simp only [List.getElem_toArray]
  try simp only [List.getElem_cons_succ]
  try simp only [List.getElem_cons_zero]
  try simp only [Act.put]
  try simp only [List.setIfInBounds_toArray]
  try simp only [List.set_cons_succ]
  try simp only [List.set_cons_zero]
  refine wpAnyH_take (i := 4) (v := (.string ky)) rfl (by kernel_rfl) (by kernel_rfl) (by kernel_rfl) (fun _ _ _ h => h) (Or.inl ⟨by rfl, ?_⟩) (by assumption) ?_
  · intro w hSw
    (try dsimp only at hSw)
    go_simp
  try simp only [List.getElem_toArray]
  try simp only [List.getElem_cons_succ]
  try simp only [List.getElem_cons_zero]
  try simp only [Act.put]
  try simp only [List.setIfInBounds_toArray]
  try simp only [List.set_cons_succ]
  try simp only [List.set_cons_zero]
  refine wpAnyH_take (i := 5) (v := (.pointer (some ⟨w.heap.size, 2, none⟩))) rfl (by kernel_rfl) (by kernel_rfl) (by kernel_rfl) (fun _ _ _ h => h) (Or.inl ⟨by rfl, ?_⟩) (by assumption) ?_
  · intro w hSw
    (try dsimp only at hSw)
    go_simp
  try simp only [List.getElem_toArray]
  try simp only [List.getElem_cons_succ]
  try simp only [List.getElem_cons_zero]
  try simp only [Act.put]
  try simp only [List.setIfInBounds_toArray]
  try simp only [List.set_cons_succ]
  try simp only [List.set_cons_zero]
  refine wpAnyH_take (i := 6) (v := (.string vl)) rfl (by kernel_rfl) (by kernel_rfl) (by kernel_rfl) (fun _ _ _ h => h) (Or.inl ⟨by rfl, ?_⟩) (by assumption) ?_
  · intro w hSw
    (try dsimp only at hSw)
    go_simp
  try simp only [List.getElem_toArray]
  try simp only [List.getElem_cons_succ]
  try simp only [List.getElem_cons_zero]
  try simp only [Act.put]
  try simp only [List.setIfInBounds_toArray]
  try simp only [List.set_cons_succ]
  try simp only [List.set_cons_zero]
  refine wpAnyH_take (i := 7) (v := (.pointer (some ⟨w.heap.size, 0, none⟩))) rfl (by kernel_rfl) (by kernel_rfl) (by kernel_rfl) (fun _ _ _ h => h) (Or.inl ⟨by rfl, ?_⟩) (by assumption) ?_
  · intro w hSw
    (try dsimp only at hSw)
    go_simp
  try simp only [List.getElem_toArray]
  try simp only [List.getElem_cons_succ]
  try simp only [List.getElem_cons_zero]
  try simp only [Act.put]
  try simp only [List.setIfInBounds_toArray]
  try simp only [List.set_cons_succ]
  try simp only [List.set_cons_zero]
  refine wpAnyH_take (i := 8) (v := (.int .i64 2)) rfl (by kernel_rfl) (by kernel_rfl) (by kernel_rfl) (fun _ _ _ h => h) (Or.inl ⟨by rfl, ?_⟩) (by assumption) ?_
  · intro w hSw
    (try dsimp only at hSw)
    go_simp
  try simp only [List.getElem_toArray]
  try simp only [List.getElem_cons_succ]
  try simp only [List.getElem_cons_zero]
  try simp only [Act.put]
  try simp only [List.setIfInBounds_toArray]
  try simp only [List.set_cons_succ]
  try simp only [List.set_cons_zero]
  refine wpAnyH_take (i := 9) (v := (.bool false)) rfl (by kernel_rfl) (by kernel_rfl) (by kernel_rfl) (fun _ _ _ h => h) (Or.inl ⟨by rfl, ?_⟩) (by assumption) ?_
  · intro w hSw
    (try dsimp only at hSw)
    go_simp
  try simp only [List.getElem_toArray]
  try simp only [List.getElem_cons_succ]
  try simp only [List.getElem_cons_zero]
  try simp only [Act.put]
  try simp only [List.setIfInBounds_toArray]
  try simp only [List.set_cons_succ]
  try simp only [List.set_cons_zero]
  refine wpAnyH_take (i := 10) (v := (.agg #[.string ky, .string vl, .bool false])) rfl (by kernel_rfl) (by kernel_rfl) (by kernel_rfl) (fun _ _ _ h => h) (Or.inl ⟨by rfl, ?_⟩) (by assumption) ?_
  · intro w hSw
    (try dsimp only at hSw)
    go_simp
  try simp only [List.getElem_toArray]
  try simp only [List.getElem_cons_succ]
  try simp only [List.getElem_cons_zero]
  try simp only [Act.put]
  try simp only [List.setIfInBounds_toArray]
  try simp only [List.set_cons_succ]
  try simp only [List.set_cons_zero]
  refine wpAnyH_ready (rs := [0]) (by kernel_rfl) (by simp) ?_
  refine AllReadyH.cons rfl (fun K1 hK => ?_) AllReadyH.nil
  go_simp
  try go_wp2_with fail
  have hbA := (below_drew w2).trans ((below_new (o := .cells #[] 34) (w := w2.drew) (Below.refl _ _)).mono (below_drew w2).size)
  have HOA := hid (ow_new w2.drew w2.heap.size (Nat.le_refl _))
  have hbA2 := below_new (o := .cells #[] 34) (w := w2.drew) (Below.refl _ _)
  refine hK.out _ _ ?_ (fun hHeld => ?_)
  · exact kl3c hbA2 (by assumption)
  clear hK K1
  try simp only [List.getElem_toArray]
  try simp only [List.getElem_cons_succ]
  try simp only [List.getElem_cons_zero]
  try simp only [Act.put]
  try simp only [List.setIfInBounds_toArray]
  try simp only [List.set_cons_succ]
  try simp only [List.set_cons_zero]
  obtain ⟨a9, n9, c9, w9, hrun, hO9, hG9⟩ := run_append_prs (w := w2.drew.alloc (.cells #[] 34)) 23 w2.heap.size _ [] HOA.out S a n c l (P0.out.below' ((HB2.out.trans (hbA.mono HB2.out.size)))) (by simp; omega) hbA.size
  have hb9 : Below w2.heap.size w2 w9 := hbA.trans ((Below.refl _ _).grown hG9 hbA.size (fun q hq => (World.ownsRow.lt HOA.out q hq).1))
  have HB9 := hid (HB2.out.trans (hb9.mono HB2.out.size))
  refine wpAnyH_ready (rs := [2]) (by kernel_rfl) (by simp) ?_
  refine AllReadyH.cons rfl (fun K1 hK => ?_) AllReadyH.nil
  refine step_append_prs _ _ rfl _ _ _ rfl rfl hrun ?_
  refine hK.out _ _ ?_ (fun hHeld => ?_)
  · exact kl3 ⟨T0.out.cells, hb9⟩
  clear hK K1
  try simp only [List.getElem_toArray]
  try simp only [List.getElem_cons_succ]
  try simp only [List.getElem_cons_zero]
  try simp only [Act.put]
  try simp only [List.setIfInBounds_toArray]
  try simp only [List.set_cons_succ]
  try simp only [List.set_cons_zero]
  have hO9' : Ow w9 w2.heap.size (.slice a9 n9 c9) l := by simpa using hO9
  have HO9 := hid hO9'
  have hn9 : n9 = n := by rw [(Rw.len (hO9'.pr (S := fun _ => True) (fun _ _ _ _ => trivial))).1, HN.out]
  have HN9 := hid hn9
  clear hO9 hO9' hn9 hG9 hrun HOA hbA hbA2
  refine wpAnyH_ready (rs := [11]) (by kernel_rfl) (by simp) ?_
  refine AllReadyH.cons rfl (fun K1 hK => ?_) AllReadyH.nil
  go_simp
  refine (l10Put_any (fun _ => True) a9 n9 c9 l ky vl false _ (HO9.out.pr (fun _ _ _ _ => trivial)) (by have := HN9.out; omega)).mono ?_
  rintro r w10 ⟨a7, n7, c7, rfl, hO7, hbC⟩
  have HB7 := hid (HB9.out.trans (hbC.mono HB9.out.size))
  have HO7 := hid (ow_mono hO7 (Nat.le_trans HBU.out.size HB9.out.size))
  clear hO7
  go_wp2_with fail
  refine hK.out _ _ ?_ (fun hHeld => ?_)
  · exact kl3c hbC (by assumption)
  clear hK K1
  try simp only [List.getElem_toArray]
  try simp only [List.getElem_cons_succ]
  try simp only [List.getElem_cons_zero]
  try simp only [Act.put]
  try simp only [List.setIfInBounds_toArray]
  try simp only [List.set_cons_succ]
  try simp only [List.set_cons_zero]
  clear hbC hb9
  refine wpAnyH_take (i := 12) (v := (.slice a7 n7 c7)) rfl (by kernel_rfl) (by kernel_rfl) (by kernel_rfl) (fun _ _ _ h => h) (Or.inl ⟨by rfl, ?_⟩) (by assumption) ?_
  · intro w hSw
    (try dsimp only at hSw)
    go_simp
  try simp only [List.getElem_toArray]
  try simp only [List.getElem_cons_succ]
  try simp only [List.getElem_cons_zero]
  try simp only [Act.put]
  try simp only [List.setIfInBounds_toArray]
  try simp only [List.set_cons_succ]
  try simp only [List.set_cons_zero]
  refine wpAnyH_take (i := 13) (v := (.slice none 0 0)) rfl (by kernel_rfl) (by kernel_rfl) (by kernel_rfl) (fun _ _ _ h => h) (Or.inl ⟨by rfl, ?_⟩) (by assumption) ?_
  · intro w hSw
    (try dsimp only at hSw)
    go_simp
  try simp only [List.getElem_toArray]
  try simp only [List.getElem_cons_succ]
  try simp only [List.getElem_cons_zero]
  try simp only [Act.put]
  try simp only [List.setIfInBounds_toArray]
  try simp only [List.set_cons_succ]
  try simp only [List.set_cons_zero]
  refine wpAnyH_take (i := 14) (v := (.bool true)) rfl (by kernel_rfl) (by kernel_rfl) (by kernel_rfl) (fun _ _ _ h => h) (Or.inl ⟨by rfl, ?_⟩) (by assumption) ?_
  · intro w hSw
    (try dsimp only at hSw)
    go_simp
  try simp only [List.getElem_toArray]
  try simp only [List.getElem_cons_succ]
  try simp only [List.getElem_cons_zero]
  try simp only [Act.put]
  try simp only [List.setIfInBounds_toArray]
  try simp only [List.set_cons_succ]
  try simp only [List.set_cons_zero]
  refine wpAnyH_done (by kernel_rfl) ?_ _
  refine NoPanic.normal ?_
  go_wp2
  go_ret3
  rw [HT.out, HDD.out]
  exact ⟨_, _, _, _, _, _, rfl, HO7.out, ow_nil _ _, HBU.out.trans (HB7.out.mono HBU.out.size)⟩
set_option maxHeartbeats 8000000 in
set_option maxRecDepth 20000 in
theorem specRunAsk_3 (S : Nat → Prop) (a : Option Addr) (n c : Nat) (l : List PB) (ky vl lo hi : ByteArray) (mo : Int) (bk : Bool) (w : World) (h : Pr w S (.slice a n c) l) (hs : n ≤ 1048576) (hd : daOk l = true) (hk : akOk 3 ky vl lo hi mo bk = true) :
    Calls Try.prog 8 #[.slice a n c, .agg #[.int .i64 3, .string ky, .string vl, .string lo, .string hi, .int .i64 mo, .bool bk]] w fun e w' => RsPost true (raD l 3 ky vl) (raT l 3 ky lo hi mo bk) w e w' := by
  have hb := below_new (o := .cells #[.int .i64 3, .string ky, .string vl, .string lo, .string hi, .int .i64 mo, .bool bk] 27) (w := w) (Below.refl _ _)
  have HBU := hid hb
  have K0 := hid (Bk.new w 27 [.int .i64 3, .string ky, .string vl, .string lo, .string hi, .int .i64 mo, .bool bk])
  have P0 := hid (h.below' hb)
  have HN := hid (Rw.len h).1
  have HD := hid hd
  have HK := hid hk
  clear hb h hd hk
  have k0 := K0.out.cell (j := 0) rfl
  have k1 := K0.out.cell (j := 1) rfl
  have k2 := K0.out.cell (j := 2) rfl
  have k3 := K0.out.cell (j := 3) rfl
  have k4 := K0.out.cell (j := 4) rfl
  have k5 := K0.out.cell (j := 5) rfl
  have k6 := K0.out.cell (j := 6) rfl
  go_enter Try.func8, Try.ntmps8
  go_wp2_with fail
  refine (specDataOk_at S a n c l _ P0.out (by omega)).mono ?_
  have HUZ : Hid ((w.alloc (.cells #[.int .i64 3, .string ky, .string vl, .string lo, .string hi, .int .i64 mo, .bool bk] 27)).heap.size = w.heap.size + 1) := by show _ = _; simp
  generalize hU : w.alloc (.cells #[.int .i64 3, .string ky, .string vl, .string lo, .string hi, .int .i64 mo, .bool bk] 27) = U at *
  clear hU
  rintro e w1 ⟨rfl, hb⟩
  have HB1 := hid hb
  clear hb k0 k1 k2 k3 k4 k5 k6
  rw [HD.out]
  have k0 := (K0.out.below HB1.out).cell (j := 0) rfl
  have k1 := (K0.out.below HB1.out).cell (j := 1) rfl
  have k2 := (K0.out.below HB1.out).cell (j := 2) rfl
  have k3 := (K0.out.below HB1.out).cell (j := 3) rfl
  have k4 := (K0.out.below HB1.out).cell (j := 4) rfl
  have k5 := (K0.out.below HB1.out).cell (j := 5) rfl
  have k6 := (K0.out.below HB1.out).cell (j := 6) rfl
  go_wp2_with fail
  refine (specAskOk_any 3 ky vl lo hi mo bk _).mono ?_
  rintro e w2 ⟨rfl, hb⟩
  have HB2 := hid (HB1.out.trans (hb.mono HB1.out.size))
  clear hb HB1 k0 k1 k2 k3 k4 k5 k6
  rw [HK.out]
  have k0 := (K0.out.below HB2.out).cell (j := 0) rfl
  have k1 := (K0.out.below HB2.out).cell (j := 1) rfl
  have k2 := (K0.out.below HB2.out).cell (j := 2) rfl
  have k3 := (K0.out.below HB2.out).cell (j := 3) rfl
  have k4 := (K0.out.below HB2.out).cell (j := 4) rfl
  have k5 := (K0.out.below HB2.out).cell (j := 5) rfl
  have k6 := (K0.out.below HB2.out).cell (j := 6) rfl
  have HT : Hid (raT l 3 ky lo hi mo bk = []) := rfl
  have HDD : Hid (raD l 3 ky vl = lpV l ky vl true) := (lpV_del (daOk_asc HD.out) ky vl).symm
  have T0 := hid (kl3_0 k0 k1 k2)
  go_wp2_with fail
  refine wp_region_noPanic ?_
  refine wp_region_held_drew (S := fun v => v.cell? ⟨w.heap.size, 0, none⟩ = some (.int .i64 3) ∧ v.cell? ⟨w.heap.size, 1, none⟩ = some (.string ky) ∧ v.cell? ⟨w.heap.size, 2, none⟩ = some (.string vl) ∧ KL w2 v [(⟨w.heap.size, 0, none⟩, .int .i64 3), (⟨w.heap.size, 1, none⟩, .string ky), (⟨w.heap.size, 2, none⟩, .string vl)]) (by kernel_rfl) (kl3 (T0.out.call (below_drew _))) (fun hHeld => ?_)
  simp only [List.size_toArray, List.length_cons, List.length_nil, Array.replicate_succ, Array.replicate_zero, Nat.reduceAdd, List.push_toArray, List.nil_append, List.cons_append]
  refine wpAnyH_take (i := 1) (v := (.slice a n c)) rfl (by kernel_rfl) (by kernel_rfl) (by kernel_rfl) (fun _ _ _ h => h) (Or.inl ⟨by rfl, ?_⟩) (by assumption) ?_
  · intro w hSw
    (try dsimp only at hSw)
    go_simp
  try simp only [List.getElem_toArray]
  try simp only [List.getElem_cons_succ]
  try simp only [List.getElem_cons_zero]
  try simp only [Act.put]
  try simp only [List.setIfInBounds_toArray]
  try simp only [List.set_cons_succ]
  try simp only [List.set_cons_zero]
  refine wpAnyH_take (i := 3) (v := (.pointer (some ⟨w.heap.size, 1, none⟩))) rfl (by kernel_rfl) (by kernel_rfl) (by kernel_rfl) (fun _ _ _ h => h) (Or.inl ⟨by rfl, ?_⟩) (by assumption) ?_
  · intro w hSw
    (try dsimp only at hSw)
    go_simp
  try simp only [List.getElem_toArray]
  try simp only [List.getElem_cons_succ]
  try simp only [List.getElem_cons_zero]
  try simp only [Act.put]
  try simp only [List.setIfInBounds_toArray]
  try simp only [List.set_cons_succ]
  try simp only [List.set_cons_zero]
  refine wpAnyH_take (i := 4) (v := (.string ky)) rfl (by kernel_rfl) (by kernel_rfl) (by kernel_rfl) (fun _ _ _ h => h) (Or.inl ⟨by rfl, ?_⟩) (by assumption) ?_
  · intro w hSw
    (try dsimp only at hSw)
    go_simp
  try simp only [List.getElem_toArray]
  try simp only [List.getElem_cons_succ]
  try simp only [List.getElem_cons_zero]
  try simp only [Act.put]
  try simp only [List.setIfInBounds_toArray]
  try simp only [List.set_cons_succ]
  try simp only [List.set_cons_zero]
  refine wpAnyH_take (i := 5) (v := (.pointer (some ⟨w.heap.size, 2, none⟩))) rfl (by kernel_rfl) (by kernel_rfl) (by kernel_rfl) (fun _ _ _ h => h) (Or.inl ⟨by rfl, ?_⟩) (by assumption) ?_
  · intro w hSw
    (try dsimp only at hSw)
    go_simp
  try simp only [List.getElem_toArray]
  try simp only [List.getElem_cons_succ]
  try simp only [List.getElem_cons_zero]
  try simp only [Act.put]
  try simp only [List.setIfInBounds_toArray]
  try simp only [List.set_cons_succ]
  try simp only [List.set_cons_zero]
  refine wpAnyH_take (i := 6) (v := (.string vl)) rfl (by kernel_rfl) (by kernel_rfl) (by kernel_rfl) (fun _ _ _ h => h) (Or.inl ⟨by rfl, ?_⟩) (by assumption) ?_
  · intro w hSw
    (try dsimp only at hSw)
    go_simp
  try simp only [List.getElem_toArray]
  try simp only [List.getElem_cons_succ]
  try simp only [List.getElem_cons_zero]
  try simp only [Act.put]
  try simp only [List.setIfInBounds_toArray]
  try simp only [List.set_cons_succ]
  try simp only [List.set_cons_zero]
  refine wpAnyH_take (i := 7) (v := (.pointer (some ⟨w.heap.size, 0, none⟩))) rfl (by kernel_rfl) (by kernel_rfl) (by kernel_rfl) (fun _ _ _ h => h) (Or.inl ⟨by rfl, ?_⟩) (by assumption) ?_
  · intro w hSw
    (try dsimp only at hSw)
    go_simp
  try simp only [List.getElem_toArray]
  try simp only [List.getElem_cons_succ]
  try simp only [List.getElem_cons_zero]
  try simp only [Act.put]
  try simp only [List.setIfInBounds_toArray]
  try simp only [List.set_cons_succ]
  try simp only [List.set_cons_zero]
  refine wpAnyH_take (i := 8) (v := (.int .i64 3)) rfl (by kernel_rfl) (by kernel_rfl) (by kernel_rfl) (fun _ _ _ h => h) (Or.inl ⟨by rfl, ?_⟩) (by assumption) ?_
  · intro w hSw
    (try dsimp only at hSw)
    go_simp
  try simp only [List.getElem_toArray]
  try simp only [List.getElem_cons_succ]
  try simp only [List.getElem_cons_zero]
  try simp only [Act.put]
  try simp only [List.setIfInBounds_toArray]
  try simp only [List.set_cons_succ]
  try simp only [List.set_cons_zero]
  refine wpAnyH_take (i := 9) (v := (.bool true)) rfl (by kernel_rfl) (by kernel_rfl) (by kernel_rfl) (fun _ _ _ h => h) (Or.inl ⟨by rfl, ?_⟩) (by assumption) ?_
  · intro w hSw
    (try dsimp only at hSw)
    go_simp
  try simp only [List.getElem_toArray]
  try simp only [List.getElem_cons_succ]
  try simp only [List.getElem_cons_zero]
  try simp only [Act.put]
  try simp only [List.setIfInBounds_toArray]
  try simp only [List.set_cons_succ]
  try simp only [List.set_cons_zero]
  refine wpAnyH_take (i := 10) (v := (.agg #[.string ky, .string vl, .bool true])) rfl (by kernel_rfl) (by kernel_rfl) (by kernel_rfl) (fun _ _ _ h => h) (Or.inl ⟨by rfl, ?_⟩) (by assumption) ?_
  · intro w hSw
    (try dsimp only at hSw)
    go_simp
  try simp only [List.getElem_toArray]
  try simp only [List.getElem_cons_succ]
  try simp only [List.getElem_cons_zero]
  try simp only [Act.put]
  try simp only [List.setIfInBounds_toArray]
  try simp only [List.set_cons_succ]
  try simp only [List.set_cons_zero]
  refine wpAnyH_ready (rs := [0]) (by kernel_rfl) (by simp) ?_
  refine AllReadyH.cons rfl (fun K1 hK => ?_) AllReadyH.nil
  go_simp
  try go_wp2_with fail
  have hbA := (below_drew w2).trans ((below_new (o := .cells #[] 34) (w := w2.drew) (Below.refl _ _)).mono (below_drew w2).size)
  have HOA := hid (ow_new w2.drew w2.heap.size (Nat.le_refl _))
  have hbA2 := below_new (o := .cells #[] 34) (w := w2.drew) (Below.refl _ _)
  refine hK.out _ _ ?_ (fun hHeld => ?_)
  · exact kl3c hbA2 (by assumption)
  clear hK K1
  try simp only [List.getElem_toArray]
  try simp only [List.getElem_cons_succ]
  try simp only [List.getElem_cons_zero]
  try simp only [Act.put]
  try simp only [List.setIfInBounds_toArray]
  try simp only [List.set_cons_succ]
  try simp only [List.set_cons_zero]
  obtain ⟨a9, n9, c9, w9, hrun, hO9, hG9⟩ := run_append_prs (w := w2.drew.alloc (.cells #[] 34)) 23 w2.heap.size _ [] HOA.out S a n c l (P0.out.below' ((HB2.out.trans (hbA.mono HB2.out.size)))) (by simp; omega) hbA.size
  have hb9 : Below w2.heap.size w2 w9 := hbA.trans ((Below.refl _ _).grown hG9 hbA.size (fun q hq => (World.ownsRow.lt HOA.out q hq).1))
  have HB9 := hid (HB2.out.trans (hb9.mono HB2.out.size))
  refine wpAnyH_ready (rs := [2]) (by kernel_rfl) (by simp) ?_
  refine AllReadyH.cons rfl (fun K1 hK => ?_) AllReadyH.nil
  refine step_append_prs _ _ rfl _ _ _ rfl rfl hrun ?_
  refine hK.out _ _ ?_ (fun hHeld => ?_)
  · exact kl3 ⟨T0.out.cells, hb9⟩
  clear hK K1
  try simp only [List.getElem_toArray]
  try simp only [List.getElem_cons_succ]
  try simp only [List.getElem_cons_zero]
  try simp only [Act.put]
  try simp only [List.setIfInBounds_toArray]
  try simp only [List.set_cons_succ]
  try simp only [List.set_cons_zero]
  have hO9' : Ow w9 w2.heap.size (.slice a9 n9 c9) l := by simpa using hO9
  have HO9 := hid hO9'
  have hn9 : n9 = n := by rw [(Rw.len (hO9'.pr (S := fun _ => True) (fun _ _ _ _ => trivial))).1, HN.out]
  have HN9 := hid hn9
  clear hO9 hO9' hn9 hG9 hrun HOA hbA hbA2
  refine wpAnyH_ready (rs := [11]) (by kernel_rfl) (by simp) ?_
  refine AllReadyH.cons rfl (fun K1 hK => ?_) AllReadyH.nil
  go_simp
  refine (l10Put_any (fun _ => True) a9 n9 c9 l ky vl true _ (HO9.out.pr (fun _ _ _ _ => trivial)) (by have := HN9.out; omega)).mono ?_
  rintro r w10 ⟨a7, n7, c7, rfl, hO7, hbC⟩
  have HB7 := hid (HB9.out.trans (hbC.mono HB9.out.size))
  have HO7 := hid (ow_mono hO7 (Nat.le_trans HBU.out.size HB9.out.size))
  clear hO7
  go_wp2_with fail
  refine hK.out _ _ ?_ (fun hHeld => ?_)
  · exact kl3c hbC (by assumption)
  clear hK K1
  try simp only [List.getElem_toArray]
  try simp only [List.getElem_cons_succ]
  try simp only [List.getElem_cons_zero]
  try simp only [Act.put]
  try simp only [List.setIfInBounds_toArray]
  try simp only [List.set_cons_succ]
  try simp only [List.set_cons_zero]
  clear hbC hb9
  refine wpAnyH_take (i := 12) (v := (.slice a7 n7 c7)) rfl (by kernel_rfl) (by kernel_rfl) (by kernel_rfl) (fun _ _ _ h => h) (Or.inl ⟨by rfl, ?_⟩) (by assumption) ?_
  · intro w hSw
    (try dsimp only at hSw)
    go_simp
  try simp only [List.getElem_toArray]
  try simp only [List.getElem_cons_succ]
  try simp only [List.getElem_cons_zero]
  try simp only [Act.put]
  try simp only [List.setIfInBounds_toArray]
  try simp only [List.set_cons_succ]
  try simp only [List.set_cons_zero]
  refine wpAnyH_take (i := 13) (v := (.slice none 0 0)) rfl (by kernel_rfl) (by kernel_rfl) (by kernel_rfl) (fun _ _ _ h => h) (Or.inl ⟨by rfl, ?_⟩) (by assumption) ?_
  · intro w hSw
    (try dsimp only at hSw)
    go_simp
  try simp only [List.getElem_toArray]
  try simp only [List.getElem_cons_succ]
  try simp only [List.getElem_cons_zero]
  try simp only [Act.put]
  try simp only [List.setIfInBounds_toArray]
  try simp only [List.set_cons_succ]
  try simp only [List.set_cons_zero]
  refine wpAnyH_take (i := 14) (v := (.bool true)) rfl (by kernel_rfl) (by kernel_rfl) (by kernel_rfl) (fun _ _ _ h => h) (Or.inl ⟨by rfl, ?_⟩) (by assumption) ?_
  · intro w hSw
    (try dsimp only at hSw)
    go_simp
  try simp only [List.getElem_toArray]
  try simp only [List.getElem_cons_succ]
  try simp only [List.getElem_cons_zero]
  try simp only [Act.put]
  try simp only [List.setIfInBounds_toArray]
  try simp only [List.set_cons_succ]
  try simp only [List.set_cons_zero]
  refine wpAnyH_done (by kernel_rfl) ?_ _
  refine NoPanic.normal ?_
  go_wp2
  go_ret3
  rw [HT.out, HDD.out]
  exact ⟨_, _, _, _, _, _, rfl, HO7.out, ow_nil _ _, HBU.out.trans (HB7.out.mono HBU.out.size)⟩
end Go.Proofs.Ytjbamfgfgbmieaa
/-
  RunAsk of the specification: a scan.
-/
namespace Go.Proofs.Ytjbamfgfgbmieaa
open Go.RowKit
set_option maxHeartbeats 8000000 in
set_option maxRecDepth 20000 in
theorem specRunAsk_4f (S : Nat → Prop) (a : Option Addr) (n c : Nat) (l : List PB) (ky vl lo hi : ByteArray) (mo : Int) (w : World) (h : Pr w S (.slice a n c) l) (hs : n ≤ 1048576) (hd : daOk l = true) (hk : akOk 4 ky vl lo hi mo false = true) :
    Calls Try.prog 8 #[.slice a n c, .agg #[.int .i64 4, .string ky, .string vl, .string lo, .string hi, .int .i64 mo, .bool false]] w fun e w' => RsPost true (raD l 4 ky vl) (raT l 4 ky lo hi mo false) w e w' := by
  have hb := below_new (o := .cells #[.int .i64 4, .string ky, .string vl, .string lo, .string hi, .int .i64 mo, .bool false] 27) (w := w) (Below.refl _ _)
  have HBU := hid hb
  have K0 := hid (Bk.new w 27 [.int .i64 4, .string ky, .string vl, .string lo, .string hi, .int .i64 mo, .bool false])
  have P0 := hid (h.below' hb)
  have HN := hid (Rw.len h).1
  have HD := hid hd
  have HK := hid hk
  clear hb h hd hk
  have k0 := K0.out.cell (j := 0) rfl
  have k1 := K0.out.cell (j := 1) rfl
  have k2 := K0.out.cell (j := 2) rfl
  have k3 := K0.out.cell (j := 3) rfl
  have k4 := K0.out.cell (j := 4) rfl
  have k5 := K0.out.cell (j := 5) rfl
  have k6 := K0.out.cell (j := 6) rfl
  go_enter Try.func8, Try.ntmps8
  go_wp2_with fail
  refine (specDataOk_at S a n c l _ P0.out (by omega)).mono ?_
  have HUZ : Hid ((w.alloc (.cells #[.int .i64 4, .string ky, .string vl, .string lo, .string hi, .int .i64 mo, .bool false] 27)).heap.size = w.heap.size + 1) := by show _ = _; simp
  generalize hU : w.alloc (.cells #[.int .i64 4, .string ky, .string vl, .string lo, .string hi, .int .i64 mo, .bool false] 27) = U at *
  clear hU
  rintro e w1 ⟨rfl, hb⟩
  have HB1 := hid hb
  clear hb k0 k1 k2 k3 k4 k5 k6
  rw [HD.out]
  have k0 := (K0.out.below HB1.out).cell (j := 0) rfl
  have k1 := (K0.out.below HB1.out).cell (j := 1) rfl
  have k2 := (K0.out.below HB1.out).cell (j := 2) rfl
  have k3 := (K0.out.below HB1.out).cell (j := 3) rfl
  have k4 := (K0.out.below HB1.out).cell (j := 4) rfl
  have k5 := (K0.out.below HB1.out).cell (j := 5) rfl
  have k6 := (K0.out.below HB1.out).cell (j := 6) rfl
  go_wp2_with fail
  refine (specAskOk_any 4 ky vl lo hi mo false _).mono ?_
  rintro e w2 ⟨rfl, hb⟩
  have HB2 := hid (HB1.out.trans (hb.mono HB1.out.size))
  clear hb HB1 k0 k1 k2 k3 k4 k5 k6
  rw [HK.out]
  have k0 := (K0.out.below HB2.out).cell (j := 0) rfl
  have k1 := (K0.out.below HB2.out).cell (j := 1) rfl
  have k2 := (K0.out.below HB2.out).cell (j := 2) rfl
  have k3 := (K0.out.below HB2.out).cell (j := 3) rfl
  have k4 := (K0.out.below HB2.out).cell (j := 4) rfl
  have k5 := (K0.out.below HB2.out).cell (j := 5) rfl
  have k6 := (K0.out.below HB2.out).cell (j := 6) rfl
  have HDD : Hid (raD l 4 ky vl = l) := rfl
  have HT : Hid (raT l 4 ky lo hi mo false = (scJ l lo hi mo false n)) := by show _ = _; rw [HN.out, scJ_end]; rfl
  have hbn := below_new (o := .cells #[] 34) (w := w2) (Below.refl _ _)
  have HO3 := hid (ow_new w2 w2.heap.size (Nat.le_refl _))
  have HBV := hid hbn
  clear hbn
  go_wp2_with fail
  go_loopw [7, 8, 9, 41] (fun x z y i wr => ∃ (j : Nat) (av : Option Addr) (nv cv : Nat), j ≤ n ∧ i = .int .i64 j ∧ x = .slice av nv cv ∧ Hid (nv = (scJ l lo hi mo false j).length) ∧ Hid (Ow wr w2.heap.size (.slice av nv cv) (scJ l lo hi mo false j)) ∧ Hid (Below w2.heap.size w2 wr)) (fun _ _ _ i _ => n - (intOf i).toNat)
  case atStart => exact ⟨0, _, 0, 0, Nat.zero_le _, rfl, rfl, by show _ = _; simp [scJ], by show Ow _ _ _ _; simpa [scJ] using HO3.out, HBV.out⟩
  case round =>
    obtain ⟨j, av, nv, cv, hj, rfl, rfl, HNV, HO, HBW⟩ := hrel
    clear HO3 HBV k0 k1 k2 k3 k4 k5 k6
    have HB := hid (HB2.out.trans (HBW.out.mono HB2.out.size))
    by_cases hlt : j < n
    · have hlt' : (j : Int) < (n : Int) := by omega
      have hj0 : (0 : Int) ≤ (j : Int) := by omega
      have HLE : Hid ((scJ l lo hi mo false j).length ≤ 1048576) := by show _ ≤ _; have h1 := scJ_le l lo hi mo false j; have h2 := HN.out; omega
      have PJ := hid (P0.out.below' HB.out)
      obtain ⟨b, off, rfl, _, hbw, hcell⟩ := PJ.out.at (by omega)
      obtain ⟨d0, d1⟩ := hcell j hlt
      have hcv := (Rw.len (HO.out.pr (S := fun _ => True) (fun _ _ _ _ => trivial))).2
      have HPJ : Hid (pAtB (dirL false l) j = pAtB l j) := rfl
      have HSD := hid (scJ_step l lo hi mo false j (by rw [← HN.out]; exact hlt))
      rw [HPJ.out] at HSD
      clear hcell hbw PJ HPJ
      generalize hcur : pAtB l j = cur at *
      obtain ⟨kk, vv⟩ := cur
      have HSD2 := hid HSD.out
      clear HSD hcur
      simp only at d0 d1
      have hbp := below_new (o := .cells #[.string kk, .string vv] 34) (w := wr) (Below.refl _ _)
      have KP := hid (Bk.new wr 34 [.string kk, .string vv])
      have HOP := hid (HO.out.kept hbp)
      have HBP := hid (HBW.out.trans (hbp.mono HBW.out.size))
      have HB4 := hid (HB2.out.trans (HBP.out.mono HB2.out.size))
      clear hbp
      have k0 := (K0.out.below HB4.out).cell (j := 0) rfl
      have k1 := (K0.out.below HB4.out).cell (j := 1) rfl
      have k2 := (K0.out.below HB4.out).cell (j := 2) rfl
      have k3 := (K0.out.below HB4.out).cell (j := 3) rfl
      have k4 := (K0.out.below HB4.out).cell (j := 4) rfl
      have k5 := (K0.out.below HB4.out).cell (j := 5) rfl
      have k6 := (K0.out.below HB4.out).cell (j := 6) rfl
      have q0 := KP.out.cell (j := 0) rfl
      have q1 := KP.out.cell (j := 1) rfl
      have HRH := hid (fun v => specRangeHas_any lo hi kk v)
      simp only [rng] at HRH
      go_wp2_with fail
      refine (HRH.out _).mono ?_
      rintro e w5 ⟨rfl, hb⟩
      have KP5 := hid (KP.out.below hb)
      have HO5 := hid (HOP.out.kept hb)
      have HB5 := hid (HBP.out.trans (hb.mono HBP.out.size))
      have HB6 := hid (HB2.out.trans (HB5.out.mono HB2.out.size))
      clear hb KP HOP HBP HB4 HRH k0 k1 k2 k3 k4 k5 k6 q0 q1
      have k0 := (K0.out.below HB6.out).cell (j := 0) rfl
      have k1 := (K0.out.below HB6.out).cell (j := 1) rfl
      have k2 := (K0.out.below HB6.out).cell (j := 2) rfl
      have k3 := (K0.out.below HB6.out).cell (j := 3) rfl
      have k4 := (K0.out.below HB6.out).cell (j := 4) rfl
      have k5 := (K0.out.below HB6.out).cell (j := 5) rfl
      have k6 := (K0.out.below HB6.out).cell (j := 6) rfl
      have q0 := KP5.out.cell (j := 0) rfl
      have q1 := KP5.out.cell (j := 1) rfl
      cases hh : rHas lo hi kk with
      | false =>
        have HC : Hid (¬ (((scJ l lo hi mo false j).length : Int) < mo ∧ rHas lo hi kk = true)) := fun h => by rw [hh] at h; cases h.2
        clear hh
        have HSF : Hid ((scJ l lo hi mo false (j + 1)) = (scJ l lo hi mo false j)) := by show _ = _; rw [HSD2.out, if_neg HC.out]
        clear HSD2 HC
        go_wp2
        go_roundw
        case rel => exact ⟨j + 1, av, nv, cv, by omega, by go_num, rfl, by rw [HSF.out]; exact HNV.out, by rw [HSF.out]; exact HO5.out, HB5.out⟩
        case measure => simp [intOf]; omega
      | true =>
        by_cases hm : (nv : Int) < mo
        · have HC : Hid (((scJ l lo hi mo false j).length : Int) < mo ∧ rHas lo hi kk = true) := ⟨by rw [← HNV.out]; exact hm, hh⟩
          clear hh
          have hb := below_new (o := .cells #[.string kk, .string vv] 34) (w := w5) (Below.refl _ _)
          have KS : Hid (Bk (w5.alloc (.cells #[.string kk, .string vv] 34)) (w5.heap.size) 34 [.string kk, .string vv]) := by have := Bk.new w5 34 [.string kk, .string vv]; show Bk _ _ _ _; simpa using this
          have HOa := hid (HO5.out.kept hb)
          have HBa := hid (HB5.out.trans (hb.mono HB5.out.size))
          clear hb
          have HSF : Hid ((scJ l lo hi mo false (j + 1)) = (scJ l lo hi mo false j) ++ [(kk, vv)]) := by show _ = _; rw [HSD2.out, if_pos HC.out]
          clear HSD2 HC
          go_wp2_with (at_builtin; refine wpList_append_pair1 rfl _ _ rfl w2.heap.size _ (scJ l lo hi mo false j) rfl HOa.out (w5.heap.size) kk vv rfl KS.out ?q1 ?q2 ?_)
          case q1 => exact HLE.out
          case q2 => first | exact HBa.out.size | (have h := HBa.out.size; simp at h; omega)
          intro a7 n7 c7 w7 hO hg hown
          have HO7 : Hid (Ow w7 w2.heap.size (.slice a7 n7 c7) ((scJ l lo hi mo false j) ++ [(kk, vv)])) := hO
          have HB7 : Hid (Below w2.heap.size w2 w7) := HBa.out.trans (grown_belowB HOa.out hg HBa.out.size)
          obtain ⟨_, _, _, hsh, hn7⟩ := hO.shape'
          cases hsh
          have HN7 := hid hn7.out
          clear hO hg hown hn7 HOa HBa KS k0 k1 k2 k3 k4 k5 k6 q0 q1
          rw [← HSF.out] at HO7 HN7
          generalize hg9 : (scJ l lo hi mo false (j + 1)) = Z at *
          have HG9 := hid hg9
          clear hg9
          go_wp2
          go_roundw
          case rel => exact ⟨j + 1, a7, n7, c7, by omega, by go_num, rfl, by rw [HG9.out]; exact HN7.out, by rw [HG9.out]; exact HO7.out, HB7.out⟩
          case measure => simp [intOf]; omega
        · have HC : Hid (¬ (((scJ l lo hi mo false j).length : Int) < mo ∧ rHas lo hi kk = true)) := fun h => hm (by rw [HNV.out]; exact h.1)
          clear hh
          have HSF : Hid ((scJ l lo hi mo false (j + 1)) = (scJ l lo hi mo false j)) := by show _ = _; rw [HSD2.out, if_neg HC.out]
          clear HSD2 HC
          go_wp2
          go_roundw
          case rel => exact ⟨j + 1, av, nv, cv, by omega, by go_num, rfl, by rw [HSF.out]; exact HNV.out, by rw [HSF.out]; exact HO5.out, HB5.out⟩
          case measure => simp [intOf]; omega
    · have hlt' : ¬ (j : Int) < (n : Int) := by omega
      obtain rfl : j = n := by omega
      have hb := below_new (o := .cells #[] 34) (w := wr) (Below.refl _ _)
      have HSE : Hid (∀ q, (Value.slice av nv cv).ownBlock = some q → q < wr.heap.size) := fun q hq => (World.ownsRow.lt HO.out q hq).2
      have HN1 := hid (ow_new wr w2.heap.size HBW.out.size)
      have HO1 := hid (HO.out.kept hb)
      have HBa := hid (HBW.out.trans (hb.mono HBW.out.size))
      have PA := hid (P0.out.below' (HB2.out.trans (HBa.out.mono HB2.out.size)))
      have hcv := (Rw.len (HO.out.pr (S := fun _ => True) (fun _ _ _ _ => trivial))).2
      clear hb HO HBW HB
      go_wp2_with (at_builtin; refine wpList_append_prs rfl _ _ rfl w2.heap.size _ [] rfl HN1.out S a j c l rfl PA.out (by simp; omega) ?q2 ?_)
      case q2 => first | exact HBa.out.size | (have h := HBa.out.size; simp at h; omega)
      intro a7 n7 c7 w7 hO hg
      have HO7 : Hid (Ow w7 w2.heap.size (.slice a7 n7 c7) l) := by show Ow _ _ _ _; first | exact hO | simpa using hO
      have HB7 : Hid (Below w2.heap.size w2 w7) := HBa.out.trans (grown_belowB HN1.out hg HBa.out.size)
      have HT7 : Hid (Ow w7 w2.heap.size (.slice av nv cv) (scJ l lo hi mo false j)) := HO1.out.to (only_of_grown hg (R := fun y => y = wr.heap.size) (fun q hq => by cases hq; rfl)) (fun q hq e => by have := HSE.out q hq; omega)
      clear hO hg HN1 HO1 HBa PA
      go_wp2
      go_ret3
      rw [HT.out, HDD.out]
      exact ⟨_, _, _, _, _, _, rfl, ow_mono HO7.out (Nat.le_trans HBU.out.size HB2.out.size), ow_mono HT7.out (Nat.le_trans HBU.out.size HB2.out.size), HBU.out.trans ((HB2.out.trans (HB7.out.mono HB2.out.size)).mono HBU.out.size)⟩
end Go.Proofs.Ytjbamfgfgbmieaa
/-
  RunAsk of the specification: a scan.
-/
namespace Go.Proofs.Ytjbamfgfgbmieaa
open Go.RowKit
set_option maxHeartbeats 8000000 in
set_option maxRecDepth 20000 in
theorem specRunAsk_4t (S : Nat → Prop) (a : Option Addr) (n c : Nat) (l : List PB) (ky vl lo hi : ByteArray) (mo : Int) (w : World) (h : Pr w S (.slice a n c) l) (hs : n ≤ 1048576) (hd : daOk l = true) (hk : akOk 4 ky vl lo hi mo true = true) :
    Calls Try.prog 8 #[.slice a n c, .agg #[.int .i64 4, .string ky, .string vl, .string lo, .string hi, .int .i64 mo, .bool true]] w fun e w' => RsPost true (raD l 4 ky vl) (raT l 4 ky lo hi mo true) w e w' := by
  have hb := below_new (o := .cells #[.int .i64 4, .string ky, .string vl, .string lo, .string hi, .int .i64 mo, .bool true] 27) (w := w) (Below.refl _ _)
  have HBU := hid hb
  have K0 := hid (Bk.new w 27 [.int .i64 4, .string ky, .string vl, .string lo, .string hi, .int .i64 mo, .bool true])
  have P0 := hid (h.below' hb)
  have HN := hid (Rw.len h).1
  have HD := hid hd
  have HK := hid hk
  clear hb h hd hk
  have k0 := K0.out.cell (j := 0) rfl
  have k1 := K0.out.cell (j := 1) rfl
  have k2 := K0.out.cell (j := 2) rfl
  have k3 := K0.out.cell (j := 3) rfl
  have k4 := K0.out.cell (j := 4) rfl
  have k5 := K0.out.cell (j := 5) rfl
  have k6 := K0.out.cell (j := 6) rfl
  go_enter Try.func8, Try.ntmps8
  go_wp2_with fail
  refine (specDataOk_at S a n c l _ P0.out (by omega)).mono ?_
  have HUZ : Hid ((w.alloc (.cells #[.int .i64 4, .string ky, .string vl, .string lo, .string hi, .int .i64 mo, .bool true] 27)).heap.size = w.heap.size + 1) := by show _ = _; simp
  generalize hU : w.alloc (.cells #[.int .i64 4, .string ky, .string vl, .string lo, .string hi, .int .i64 mo, .bool true] 27) = U at *
  clear hU
  rintro e w1 ⟨rfl, hb⟩
  have HB1 := hid hb
  clear hb k0 k1 k2 k3 k4 k5 k6
  rw [HD.out]
  have k0 := (K0.out.below HB1.out).cell (j := 0) rfl
  have k1 := (K0.out.below HB1.out).cell (j := 1) rfl
  have k2 := (K0.out.below HB1.out).cell (j := 2) rfl
  have k3 := (K0.out.below HB1.out).cell (j := 3) rfl
  have k4 := (K0.out.below HB1.out).cell (j := 4) rfl
  have k5 := (K0.out.below HB1.out).cell (j := 5) rfl
  have k6 := (K0.out.below HB1.out).cell (j := 6) rfl
  go_wp2_with fail
  refine (specAskOk_any 4 ky vl lo hi mo true _).mono ?_
  rintro e w2 ⟨rfl, hb⟩
  have HB2 := hid (HB1.out.trans (hb.mono HB1.out.size))
  clear hb HB1 k0 k1 k2 k3 k4 k5 k6
  rw [HK.out]
  have k0 := (K0.out.below HB2.out).cell (j := 0) rfl
  have k1 := (K0.out.below HB2.out).cell (j := 1) rfl
  have k2 := (K0.out.below HB2.out).cell (j := 2) rfl
  have k3 := (K0.out.below HB2.out).cell (j := 3) rfl
  have k4 := (K0.out.below HB2.out).cell (j := 4) rfl
  have k5 := (K0.out.below HB2.out).cell (j := 5) rfl
  have k6 := (K0.out.below HB2.out).cell (j := 6) rfl
  have HDD : Hid (raD l 4 ky vl = l) := rfl
  have HT : Hid (raT l 4 ky lo hi mo true = (scJ l lo hi mo true n)) := by show _ = _; rw [HN.out, scJ_end]; rfl
  have hbn := below_new (o := .cells #[] 34) (w := w2) (Below.refl _ _)
  have HO3 := hid (ow_new w2 w2.heap.size (Nat.le_refl _))
  have HBV := hid hbn
  clear hbn
  go_wp2_with fail
  go_loopw [7, 8, 9, 41] (fun x z y i wr => ∃ (j : Nat) (av : Option Addr) (nv cv : Nat), j ≤ n ∧ i = .int .i64 j ∧ x = .slice av nv cv ∧ Hid (nv = (scJ l lo hi mo true j).length) ∧ Hid (Ow wr w2.heap.size (.slice av nv cv) (scJ l lo hi mo true j)) ∧ Hid (Below w2.heap.size w2 wr)) (fun _ _ _ i _ => n - (intOf i).toNat)
  case atStart => exact ⟨0, _, 0, 0, Nat.zero_le _, rfl, rfl, by show _ = _; simp [scJ], by show Ow _ _ _ _; simpa [scJ] using HO3.out, HBV.out⟩
  case round =>
    obtain ⟨j, av, nv, cv, hj, rfl, rfl, HNV, HO, HBW⟩ := hrel
    clear HO3 HBV k0 k1 k2 k3 k4 k5 k6
    have HB := hid (HB2.out.trans (HBW.out.mono HB2.out.size))
    by_cases hlt : j < n
    · have hlt' : (j : Int) < (n : Int) := by omega
      have hj0 : (0 : Int) ≤ (j : Int) := by omega
      have HLE : Hid ((scJ l lo hi mo true j).length ≤ 1048576) := by show _ ≤ _; have h1 := scJ_le l lo hi mo true j; have h2 := HN.out; omega
      have PJ := hid (P0.out.below' HB.out)
      obtain ⟨b, off, rfl, _, hbw, hcell⟩ := PJ.out.at (by omega)
      obtain ⟨d0, d1⟩ := hcell j hlt
      have hcv := (Rw.len (HO.out.pr (S := fun _ => True) (fun _ _ _ _ => trivial))).2
      obtain ⟨f0, f1⟩ := hcell (n - 1 - j) (by omega)
      have hjn : (n : Int) - 1 - (j : Int) = ((n - 1 - j : Nat) : Int) := by omega
      have hq : ((n - 1 - j : Nat) : Int) < (n : Int) := by omega
      have HPJ : Hid (pAtB (dirL true l) j = pAtB l (n - 1 - j)) := by show _ = _; rw [dirL_at l j (by rw [← HN.out]; exact hlt), HN.out]
      have HSD := hid (scJ_step l lo hi mo true j (by rw [← HN.out]; exact hlt))
      rw [HPJ.out] at HSD
      clear hcell hbw PJ HPJ
      generalize n - 1 - j = q at *
      generalize pAtB l j = pre at *
      obtain ⟨k0, v0⟩ := pre
      simp only at d0 d1
      generalize hcur : pAtB l q = cur at *
      obtain ⟨kk, vv⟩ := cur
      have HSD2 := hid HSD.out
      clear HSD hcur
      simp only at f0 f1
      have hbx := below_new (o := .cells #[.string k0, .string v0] 34) (w := wr) (Below.refl _ _)
      have KX := hid (Bk.new wr 34 [.string k0, .string v0])
      have g0 : (wr.alloc (.cells #[.string k0, .string v0] 34)).cell? ⟨b, off + q * 2, none⟩ = some (.string kk) := by rw [hbx.cell (p := ⟨b, off + q * 2, none⟩) (block_lt f0)]; exact f0
      have g1 : (wr.alloc (.cells #[.string k0, .string v0] 34)).cell? ⟨b, off + q * 2 + 1, none⟩ = some (.string vv) := by rw [hbx.cell (p := ⟨b, off + q * 2 + 1, none⟩) (block_lt f1)]; exact f1
      have x0 := KX.out.cell (j := 0) rfl
      have x1 := KX.out.cell (j := 1) rfl
      have z0 := KX.out.free 0
      have z1 := KX.out.free 1
      have hbx2 := HB.out.trans (hbx.mono HB.out.size)
      have m0 := (K0.out.below hbx2).cell (j := 0) rfl
      have m1 := (K0.out.below hbx2).cell (j := 1) rfl
      have m2 := (K0.out.below hbx2).cell (j := 2) rfl
      have m3 := (K0.out.below hbx2).cell (j := 3) rfl
      have m4 := (K0.out.below hbx2).cell (j := 4) rfl
      have m5 := (K0.out.below hbx2).cell (j := 5) rfl
      have m6 := (K0.out.below hbx2).cell (j := 6) rfl
      clear hbx hbx2 f0 f1
      have hbp := below_new (o := .cells #[.string kk, .string vv] 34) (w := wr) (Below.refl _ _)
      have KP := hid (Bk.new wr 34 [.string kk, .string vv])
      have HOP := hid (HO.out.kept hbp)
      have HBP := hid (HBW.out.trans (hbp.mono HBW.out.size))
      have HB4 := hid (HB2.out.trans (HBP.out.mono HB2.out.size))
      clear hbp
      have k0 := (K0.out.below HB4.out).cell (j := 0) rfl
      have k1 := (K0.out.below HB4.out).cell (j := 1) rfl
      have k2 := (K0.out.below HB4.out).cell (j := 2) rfl
      have k3 := (K0.out.below HB4.out).cell (j := 3) rfl
      have k4 := (K0.out.below HB4.out).cell (j := 4) rfl
      have k5 := (K0.out.below HB4.out).cell (j := 5) rfl
      have k6 := (K0.out.below HB4.out).cell (j := 6) rfl
      have q0 := KP.out.cell (j := 0) rfl
      have q1 := KP.out.cell (j := 1) rfl
      have HRH := hid (fun v => specRangeHas_any lo hi kk v)
      simp only [rng] at HRH
      go_wp2_with fail
      refine (HRH.out _).mono ?_
      rintro e w5 ⟨rfl, hb⟩
      have KP5 := hid (KP.out.below hb)
      have HO5 := hid (HOP.out.kept hb)
      have HB5 := hid (HBP.out.trans (hb.mono HBP.out.size))
      have HB6 := hid (HB2.out.trans (HB5.out.mono HB2.out.size))
      clear hb KP HOP HBP HB4 HRH k0 k1 k2 k3 k4 k5 k6 q0 q1 m0 m1 m2 m3 m4 m5 m6 g0 g1 x0 x1 z0 z1
      have k0 := (K0.out.below HB6.out).cell (j := 0) rfl
      have k1 := (K0.out.below HB6.out).cell (j := 1) rfl
      have k2 := (K0.out.below HB6.out).cell (j := 2) rfl
      have k3 := (K0.out.below HB6.out).cell (j := 3) rfl
      have k4 := (K0.out.below HB6.out).cell (j := 4) rfl
      have k5 := (K0.out.below HB6.out).cell (j := 5) rfl
      have k6 := (K0.out.below HB6.out).cell (j := 6) rfl
      have q0 := KP5.out.cell (j := 0) rfl
      have q1 := KP5.out.cell (j := 1) rfl
      cases hh : rHas lo hi kk with
      | false =>
        have HC : Hid (¬ (((scJ l lo hi mo true j).length : Int) < mo ∧ rHas lo hi kk = true)) := fun h => by rw [hh] at h; cases h.2
        clear hh
        have HSF : Hid ((scJ l lo hi mo true (j + 1)) = (scJ l lo hi mo true j)) := by show _ = _; rw [HSD2.out, if_neg HC.out]
        clear HSD2 HC
        go_wp2
        go_roundw
        case rel => exact ⟨j + 1, av, nv, cv, by omega, by go_num, rfl, by rw [HSF.out]; exact HNV.out, by rw [HSF.out]; exact HO5.out, HB5.out⟩
        case measure => simp [intOf]; omega
      | true =>
        by_cases hm : (nv : Int) < mo
        · have HC : Hid (((scJ l lo hi mo true j).length : Int) < mo ∧ rHas lo hi kk = true) := ⟨by rw [← HNV.out]; exact hm, hh⟩
          clear hh
          have hb := below_new (o := .cells #[.string kk, .string vv] 34) (w := w5) (Below.refl _ _)
          have KS : Hid (Bk (w5.alloc (.cells #[.string kk, .string vv] 34)) (w5.heap.size) 34 [.string kk, .string vv]) := by have := Bk.new w5 34 [.string kk, .string vv]; show Bk _ _ _ _; simpa using this
          have HOa := hid (HO5.out.kept hb)
          have HBa := hid (HB5.out.trans (hb.mono HB5.out.size))
          clear hb
          have HSF : Hid ((scJ l lo hi mo true (j + 1)) = (scJ l lo hi mo true j) ++ [(kk, vv)]) := by show _ = _; rw [HSD2.out, if_pos HC.out]
          clear HSD2 HC
          go_wp2_with (at_builtin; refine wpList_append_pair1 rfl _ _ rfl w2.heap.size _ (scJ l lo hi mo true j) rfl HOa.out (w5.heap.size) kk vv rfl KS.out ?q1 ?q2 ?_)
          case q1 => exact HLE.out
          case q2 => first | exact HBa.out.size | (have h := HBa.out.size; simp at h; omega)
          intro a7 n7 c7 w7 hO hg hown
          have HO7 : Hid (Ow w7 w2.heap.size (.slice a7 n7 c7) ((scJ l lo hi mo true j) ++ [(kk, vv)])) := hO
          have HB7 : Hid (Below w2.heap.size w2 w7) := HBa.out.trans (grown_belowB HOa.out hg HBa.out.size)
          obtain ⟨_, _, _, hsh, hn7⟩ := hO.shape'
          cases hsh
          have HN7 := hid hn7.out
          clear hO hg hown hn7 HOa HBa KS k0 k1 k2 k3 k4 k5 k6 q0 q1
          rw [← HSF.out] at HO7 HN7
          generalize hg9 : (scJ l lo hi mo true (j + 1)) = Z at *
          have HG9 := hid hg9
          clear hg9
          go_wp2
          go_roundw
          case rel => exact ⟨j + 1, a7, n7, c7, by omega, by go_num, rfl, by rw [HG9.out]; exact HN7.out, by rw [HG9.out]; exact HO7.out, HB7.out⟩
          case measure => simp [intOf]; omega
        · have HC : Hid (¬ (((scJ l lo hi mo true j).length : Int) < mo ∧ rHas lo hi kk = true)) := fun h => hm (by rw [HNV.out]; exact h.1)
          clear hh
          have HSF : Hid ((scJ l lo hi mo true (j + 1)) = (scJ l lo hi mo true j)) := by show _ = _; rw [HSD2.out, if_neg HC.out]
          clear HSD2 HC
          go_wp2
          go_roundw
          case rel => exact ⟨j + 1, av, nv, cv, by omega, by go_num, rfl, by rw [HSF.out]; exact HNV.out, by rw [HSF.out]; exact HO5.out, HB5.out⟩
          case measure => simp [intOf]; omega
    · have hlt' : ¬ (j : Int) < (n : Int) := by omega
      obtain rfl : j = n := by omega
      have hb := below_new (o := .cells #[] 34) (w := wr) (Below.refl _ _)
      have HSE : Hid (∀ q, (Value.slice av nv cv).ownBlock = some q → q < wr.heap.size) := fun q hq => (World.ownsRow.lt HO.out q hq).2
      have HN1 := hid (ow_new wr w2.heap.size HBW.out.size)
      have HO1 := hid (HO.out.kept hb)
      have HBa := hid (HBW.out.trans (hb.mono HBW.out.size))
      have PA := hid (P0.out.below' (HB2.out.trans (HBa.out.mono HB2.out.size)))
      have hcv := (Rw.len (HO.out.pr (S := fun _ => True) (fun _ _ _ _ => trivial))).2
      clear hb HO HBW HB
      go_wp2_with (at_builtin; refine wpList_append_prs rfl _ _ rfl w2.heap.size _ [] rfl HN1.out S a j c l rfl PA.out (by simp; omega) ?q2 ?_)
      case q2 => first | exact HBa.out.size | (have h := HBa.out.size; simp at h; omega)
      intro a7 n7 c7 w7 hO hg
      have HO7 : Hid (Ow w7 w2.heap.size (.slice a7 n7 c7) l) := by show Ow _ _ _ _; first | exact hO | simpa using hO
      have HB7 : Hid (Below w2.heap.size w2 w7) := HBa.out.trans (grown_belowB HN1.out hg HBa.out.size)
      have HT7 : Hid (Ow w7 w2.heap.size (.slice av nv cv) (scJ l lo hi mo true j)) := HO1.out.to (only_of_grown hg (R := fun y => y = wr.heap.size) (fun q hq => by cases hq; rfl)) (fun q hq e => by have := HSE.out q hq; omega)
      clear hO hg HN1 HO1 HBa PA
      go_wp2
      go_ret3
      rw [HT.out, HDD.out]
      exact ⟨_, _, _, _, _, _, rfl, ow_mono HO7.out (Nat.le_trans HBU.out.size HB2.out.size), ow_mono HT7.out (Nat.le_trans HBU.out.size HB2.out.size), HBU.out.trans ((HB2.out.trans (HB7.out.mono HB2.out.size)).mono HBU.out.size)⟩
end Go.Proofs.Ytjbamfgfgbmieaa
/-
  RunAsk of the specification, for all data and asks.
-/
namespace Go.Proofs.Ytjbamfgfgbmieaa
open Go.RowKit
set_option maxHeartbeats 4000000 in
set_option maxRecDepth 20000 in
theorem specRunAsk_no (S : Nat → Prop) (a : Option Addr) (n c : Nat) (l : List PB) (k : Int) (ky vl lo hi : ByteArray) (mo : Int) (bk : Bool) (w : World) (h : Pr w S (.slice a n c) l) (hs : n ≤ 1048576) (hn : raK l k ky vl lo hi mo bk = false) :
    Calls Try.prog 8 #[.slice a n c, .agg #[.int .i64 k, .string ky, .string vl, .string lo, .string hi, .int .i64 mo, .bool bk]] w fun e w' => RsPost false [] [] w e w' := by
  have hb := below_new (o := .cells #[.int .i64 k, .string ky, .string vl, .string lo, .string hi, .int .i64 mo, .bool bk] 27) (w := w) (Below.refl _ _)
  have HBU := hid hb
  have K0 := hid (Bk.new w 27 [.int .i64 k, .string ky, .string vl, .string lo, .string hi, .int .i64 mo, .bool bk])
  have P0 := hid (h.below' hb)
  have HR := hid hn
  clear hb h hn
  have k0 := K0.out.cell (j := 0) rfl
  have k1 := K0.out.cell (j := 1) rfl
  have k2 := K0.out.cell (j := 2) rfl
  have k3 := K0.out.cell (j := 3) rfl
  have k4 := K0.out.cell (j := 4) rfl
  have k5 := K0.out.cell (j := 5) rfl
  have k6 := K0.out.cell (j := 6) rfl
  go_enter Try.func8, Try.ntmps8
  go_wp2_with fail
  refine (specDataOk_at S a n c l _ P0.out (by omega)).mono ?_
  generalize hU : w.alloc (.cells #[.int .i64 k, .string ky, .string vl, .string lo, .string hi, .int .i64 mo, .bool bk] 27) = U at *
  clear hU
  rintro e w1 ⟨rfl, hb⟩
  have HB1 := hid hb
  clear hb k0 k1 k2 k3 k4 k5 k6
  have k0 := (K0.out.below HB1.out).cell (j := 0) rfl
  have k1 := (K0.out.below HB1.out).cell (j := 1) rfl
  have k2 := (K0.out.below HB1.out).cell (j := 2) rfl
  have k3 := (K0.out.below HB1.out).cell (j := 3) rfl
  have k4 := (K0.out.below HB1.out).cell (j := 4) rfl
  have k5 := (K0.out.below HB1.out).cell (j := 5) rfl
  have k6 := (K0.out.below HB1.out).cell (j := 6) rfl
  cases hd : daOk l with
  | false =>
    clear hd
    go_wp2
    go_ret3
    exact rs_no (HBU.out.trans (HB1.out.mono HBU.out.size))
  | true =>
    have HK : Hid (akOk k ky vl lo hi mo bk = false) := by have := HR.out; show _ = _; simpa [raK, hd] using this
    clear hd
    go_wp2_with fail
    refine (specAskOk_any k ky vl lo hi mo bk _).mono ?_
    rintro e w2 ⟨rfl, hb⟩
    have HB2 := hid (HB1.out.trans (hb.mono HB1.out.size))
    clear hb HB1 k0 k1 k2 k3 k4 k5 k6
    rw [HK.out]
    go_wp2
    go_ret3
    exact rs_no (HBU.out.trans (HB2.out.mono HBU.out.size))
theorem specRunAsk_any (S : Nat → Prop) (a : Option Addr) (n c : Nat) (l : List PB) (k : Int) (ky vl lo hi : ByteArray) (mo : Int) (bk : Bool) (w : World) (h : Pr w S (.slice a n c) l) (hs : n ≤ 1048576) :
    Calls Try.prog 8 #[.slice a n c, .agg #[.int .i64 k, .string ky, .string vl, .string lo, .string hi, .int .i64 mo, .bool bk]] w fun e w' => RsPost (raK l k ky vl lo hi mo bk) (raDo l k ky vl lo hi mo bk) (raTo l k ky vl lo hi mo bk) w e w' := by
  cases hr : raK l k ky vl lo hi mo bk with
  | false =>
    have e1 : raDo l k ky vl lo hi mo bk = [] := by simp [raDo, hr]
    have e2 : raTo l k ky vl lo hi mo bk = [] := by simp [raTo, hr]
    rw [e1, e2]
    exact specRunAsk_no S a n c l k ky vl lo hi mo bk w h hs hr
  | true =>
    have e1 : raDo l k ky vl lo hi mo bk = raD l k ky vl := by simp [raDo, hr]
    have e2 : raTo l k ky vl lo hi mo bk = raT l k ky lo hi mo bk := by simp [raTo, hr]
    rw [e1, e2]
    obtain ⟨hd, hk⟩ : daOk l = true ∧ akOk k ky vl lo hi mo bk = true := by simpa [raK] using hr
    rcases ak_kind hk with rfl | rfl | rfl | rfl
    · obtain ⟨_, _, rfl⟩ := ak_get hk (.inl rfl)
      exact specRunAsk_1 S a n c l ky vl lo hi mo w h hs hd hk
    · exact specRunAsk_2 S a n c l ky vl lo hi mo bk w h hs hd hk
    · exact specRunAsk_3 S a n c l ky vl lo hi mo bk w h hs hd hk
    · cases bk with
      | false => exact specRunAsk_4f S a n c l ky vl lo hi mo w h hs hd hk
      | true => exact specRunAsk_4t S a n c l ky vl lo hi mo w h hs hd hk
end Go.Proofs.Ytjbamfgfgbmieaa
/-
  l13Same of the specification: whether two slices of pairs hold the same (SmP.lean's walk).
-/
namespace Go.Proofs.Ytjbamfgfgbmieaa
open Go.RowKit
set_option maxHeartbeats 4000000 in
theorem l13Same_any (S S' : Nat → Prop) (a a' : Option Addr) (n n' c c' : Nat) (l l' : List PB) (w : World) (hP : Pr w S (.slice a n c) l) (hP' : Pr w S' (.slice a' n' c') l') :
    Calls Try.prog 46 #[.slice a n c, .slice a' n' c'] w fun e w' => e = .returned (.bool (decide (l = l'))) ∧ Below w.heap.size w w' := by
  have HP := hid hP
  have HP' := hid hP'
  have lp := hid (Rw.len hP).1
  have lp' := hid (Rw.len hP').1
  have b1 := (Rw.len hP).2
  have b1' := (Rw.len hP').2
  clear hP hP'
  by_cases h1 : n = n'
  · have e1 : ((n : Int) != (n' : Int)) = false := by simp [h1]
    subst h1
    go_enter Try.func46, Try.ntmps46
    go_wp2_with fail
    go_loopw [13] (fun i wr => ∃ k q : Nat, k ≤ n ∧ i = .int .i64 k ∧ wr = w.drewN q ∧ Hid (l.take k = l'.take k)) (fun i _ => n - (intOf i).toNat)
    case atStart => exact ⟨0, 0, Nat.zero_le _, rfl, rfl, rfl⟩
    case round =>
      obtain ⟨k, q, hk, rfl, rfl, HT⟩ := hrel
      by_cases hlt : k < n
      · have hlt' : (k : Int) < (n : Int) := by omega
        obtain ⟨g, off, hap, _, _, hc⟩ := HP.out.at (by omega)
        obtain ⟨g', off', hap', _, _, hc'⟩ := HP'.out.at (by omega)
        subst hap hap'
        have m0 := (hc k hlt).1
        have m1 := (hc k hlt).2
        have m0' := (hc' k hlt).1
        have m1' := (hc' k hlt).2
        have HSS : Hid (pAtB l k = pAtB l' k → l.take (k + 1) = l'.take (k + 1)) := by
          intro e
          have hl : k < l.length := by rw [← lp.out]; exact hlt
          have hl' : k < l'.length := by rw [← lp'.out]; exact hlt
          rw [List.take_succ_eq_append_getElem hl, List.take_succ_eq_append_getElem hl', HT.out]
          simp [pAtB, hl, hl'] at e
          rw [e]
        have HFF : Hid (pAtB l k ≠ pAtB l' k → decide (l = l') = false) := fun e => decide_eq_false (fun q => e (by rw [q]))
        clear hc hc'
        generalize pAtB l k = cx1 at *
        generalize pAtB l' k = cx2 at *
        obtain ⟨k1, v1⟩ := cx1
        obtain ⟨k2, v2⟩ := cx2
        have hnq := neq_pair k1 v1 k2 v2
        by_cases he : (k1, v1) = (k2, v2)
        · have HS1 := hid (HSS.out he)
          rw [decide_eq_true he] at hnq
          clear he HSS HFF
          go_wp2_with fail
          go_quiet (fail)
          go_wp2
          go_roundw
          case rel => exact ⟨k + 1, q + nq, by omega, by go_num, rfl, HS1.out⟩
          case measure => simp [intOf]; omega
        · have HF1 := hid (HFF.out he)
          rw [decide_eq_false he] at hnq
          clear he HSS HFF
          go_wp2_with fail
          go_quiet (fail)
          go_wp2
          go_ret
          exact ⟨by rw [HF1.out]; rfl, Below.drewN' (Below.drewN' (Below.refl _ _) _) _⟩
      · have hlt' : ¬ (k : Int) < (n : Int) := by omega
        have HE : Hid (decide (l = l') = true) := by
          have e : k = n := by omega
          have := HT.out
          rw [List.take_of_length_le (by rw [← lp.out]; omega), List.take_of_length_le (by rw [← lp'.out]; omega)] at this
          exact decide_eq_true this
        clear HT
        go_wp2
        go_ret
        exact ⟨by rw [HE.out]; rfl, Below.drewN' (Below.refl _ _) _⟩
  · have e1 : ((n : Int) != (n' : Int)) = true := by simp; omega
    have HE : Hid (decide (l = l') = false) := decide_eq_false (fun q => h1 (by rw [lp.out, lp'.out, q]))
    clear h1
    go_enter Try.func46, Try.ntmps46
    go_wp2
    go_ret
    exact ⟨by rw [HE.out]; rfl, Below.refl _ _⟩
end Go.Proofs.Ytjbamfgfgbmieaa
/-
  RunTx of the specification.
-/
namespace Go.Proofs.Ytjbamfgfgbmieaa
open Go.RowKit
set_option linter.unusedVariables false
set_option maxHeartbeats 16000000 in
set_option maxRecDepth 20000 in
theorem specRunTx_any (S R : Nat → Prop) (a0 : Option Addr) (n0 c0 : Nat) (l : List PB) (a : Option Addr) (n c : Nat) (rs : List RY) (tc te tn : Int) (w : World) (hP : Pr w R (.slice a0 n0 c0) l) (h : Yr w S (.slice a n c) rs) (KS : List ByteArray) (hK : KS.length ≤ 1048576) (hl : KsD KS l) (hrs : ∀ r ∈ rs, r.ky ∈ KS) (hs0 : n0 ≤ 1048576) (hs : n ≤ 1048576) :
    Calls Try.prog 13 #[.slice a0 n0 c0, .slice a n c, .agg #[.int .i64 tc, .int .i64 te, .int .i64 tn]] w fun e w' => RxPost (rxV (tc, te, tn) l rs).1 (rxV (tc, te, tn) l rs).2 w e w' := by
  have hnc := h.len.2.1
  have hcc := h.len.2.2
  have HN := hid h.len.1
  have HN0 := hid (Rw.len hP).1
  have hb0 := below_new (o := .cells #[.int .i64 tc, .int .i64 te, .int .i64 tn] 48) (w := w) (Below.refl _ _)
  have HB0 := hid hb0
  have K0 := hid (Bk.new w 48 [.int .i64 tc, .int .i64 te, .int .i64 tn])
  have H0 := hid (h.below hb0)
  have P0 := hid (hP.below' hb0)
  have HKK := hid hK
  have HKL := hid hl
  have HKR := hid hrs
  clear h hP hb0 hK hl hrs
  go_enter Try.func13, Try.ntmps13
  go_wp2_with fail
  refine (specDataOk_any R _ l _ P0.out (by have := HN0.out; omega)).mono ?_
  generalize hU : w.alloc (.cells #[.int .i64 tc, .int .i64 te, .int .i64 tn] 48) = U at *
  clear hU
  rintro e w1 ⟨rfl, hb⟩
  cases hd : daOk l with
  | false =>
    have E1 : Hid (rxV (tc, te, tn) l rs = ([], false)) := by show _ = _; simp [rxV, hd]
    have HB1 := hid (btR HB0.out hb)
    clear hb hd
    go_wp2
    go_ret2
    rw [E1.out]
    exact rx_no HB1.out
  | true =>
    have HV : Hid (rxV (tc, te, tn) l rs = rxF ((rs.drop 0).filter (dnR (tc, te, tn))) l true) := by show _ = _; simp [rxV, hd]
    have HDA := hid hd
    have HB1 := hid hb
    have H1 := hid (H0.out.below hb)
    have P1 := hid (P0.out.below' hb)
    have K1 := hid (K0.out.below hb)
    have HS01 := hid hb.size
    have HU1 := hid (btR HB0.out hb)
    clear hb hd H0 P0 K0
    have hbA := below_new (o := .cells #[] 34) (w := w1) (Below.refl _ _)
    have HOA := hid (ow_new w1 w1.heap.size (Nat.le_refl _))
    have PA := hid (P1.out.below' hbA)
    have HBA := hid hbA
    clear hbA
    go_wp2_with (at_builtin; refine wpList_append_prs rfl _ _ rfl w1.heap.size _ [] rfl HOA.out R a0 n0 c0 l rfl PA.out (by simp; omega) HBA.out.size ?_)
    intro a2 n2 c2 w2 hO2 hG2
    have hb2 : Below w1.heap.size w1 w2 := HBA.out.trans ((Below.refl _ _).grown hG2 HBA.out.size (fun q hq => (World.ownsRow.lt HOA.out q hq).1))
    have hO2' : Ow w2 w1.heap.size (.slice a2 n2 c2) l := by simpa using hO2
    have HO2 := hid hO2'
    have H2 := hid (H1.out.below hb2)
    have K2 := hid (K1.out.below hb2)
    have HU2 := hid (btR HU1.out hb2)
    have HS12 := hid hb2.size
    clear hO2 hO2' hG2 hb2 HOA PA HBA H1 P1 K1 HU1
    go_wp2_with fail
    go_loopw [8, 9, 11, 12, 13, 14, 23] (fun x y z1 z2 z3 z4 i wr => ∃ (k : Nat) (av : Option Addr) (nv cv : Nat) (D : List PB) (g : Bool), k ≤ n ∧ i = .int .i64 k ∧ x = .slice av nv cv ∧ y = .bool g ∧ Hid (Below w2.heap.size w2 wr) ∧ Hid (Ow wr w1.heap.size (.slice av nv cv) D) ∧ Hid (daOk D = true) ∧ Hid (KsD KS D) ∧ Hid (rxV (tc, te, tn) l rs = rxF ((rs.drop k).filter (dnR (tc, te, tn))) D g)) (fun _ _ _ _ _ _ i _ => n - (intOf i).toNat)
    case atStart => exact ⟨0, _, _, _, _, _, Nat.zero_le _, rfl, rfl, rfl, Below.refl _ _, HO2.out, HDA.out, HKL.out, HV.out⟩
    case round =>
      clear HO2 HDA HV
      obtain ⟨k, av, nv, cv, D, g, hk, rfl, rfl, rfl, HB, HO, HDA, HL, HV⟩ := hrel
      by_cases hlt : k < n
      · skip
        have hlt' : (k : Int) < (n : Int) := by omega
        have hk0 : (0 : Int) ≤ (k : Int) := by omega
        have hkr : k < rs.length := by rw [← HN.out]; exact hlt
        obtain ⟨b, off, rfl, _, _, hcell⟩ := (H2.out.below HB.out).at (by omega)
        obtain ⟨pa, pn, pc, hr, hps⟩ := hcell k hlt
        have hky : (ryAt rs k).ky ∈ KS := HKR.out _ (by simp [ryAt, hkr])
        have HSD := hid (rx_step (t := (tc, te, tn)) hkr D g)
        rw [← HV.out] at HSD
        clear HV
        generalize ryAt rs k = ry at *
        obtain ⟨rk, rc, re, rn, ra, ky, vl, lo, hi, mo, bk, co, ps⟩ := ry
        have HDN : Hid (dnR (tc, te, tn) ⟨rk, rc, re, rn, ra, ky, vl, lo, hi, mo, bk, co, ps⟩ = true ↔ (rk = 2 ∧ (rc, re, rn) = (tc, te, tn) ∧ co = 0)) := by show _ ↔ _; simp [dnR, RY.tx]
        simp only [RY.cs, RY.ok, RY.D, RY.T] at *
        have HKY := hid hky
        clear hky
        have HR := hid hr
        have hbp := below_new (o := .cells #[.int .i64 rk, .int .i64 rc, .int .i64 re, .int .i64 rn, .int .i64 ra, .string ky, .string vl, .string lo, .string hi, .int .i64 mo, .bool bk, .int .i64 co, .slice pa pn pc] 87) (w := wr) (Below.refl _ _)
        have KP := hid (Bk.new wr 87 [.int .i64 rk, .int .i64 rc, .int .i64 re, .int .i64 rn, .int .i64 ra, .string ky, .string vl, .string lo, .string hi, .int .i64 mo, .bool bk, .int .i64 co, .slice pa pn pc])
        have HPS := hid (Rw.to hps (only_of_below hbp (fun _ => False)) (fun _ _ _ h => h))
        have HO1 := hid (HO.out.kept hbp)
        have HB1' := hid (HB.out.trans (hbp.mono HB.out.size))
        clear hcell hr hps hbp HO
        have HNV := hid (Rw.len (HO1.out.pr (S := fun _ => True) (fun _ _ _ _ => trivial))).1
        have q0 := KP.out.cell (j := 0) rfl
        have q1 := KP.out.cell (j := 1) rfl
        have q2 := KP.out.cell (j := 2) rfl
        have q3 := KP.out.cell (j := 3) rfl
        have q4 := KP.out.cell (j := 4) rfl
        have q5 := KP.out.cell (j := 5) rfl
        have q6 := KP.out.cell (j := 6) rfl
        have q7 := KP.out.cell (j := 7) rfl
        have q8 := KP.out.cell (j := 8) rfl
        have q9 := KP.out.cell (j := 9) rfl
        have q10 := KP.out.cell (j := 10) rfl
        have q11 := KP.out.cell (j := 11) rfl
        have x0 := (K2.out.below HB1'.out).cell (j := 0) rfl
        have x1 := (K2.out.below HB1'.out).cell (j := 1) rfl
        have x2 := (K2.out.below HB1'.out).cell (j := 2) rfl
        go_upto_region 8 with (first
            | (refine wpList_load_mid rfl 87 _ rfl b (off + k * 13) rfl _ _ HR.out Try.underlying87 rfl (by kernel_rfl) ?_)
            | (refine wpList_store_new ?hg 87 _ _ ?ho 87 _ _ ?hx ?hy ?hi ?hold ?h1 ?rest; (case hg => rfl); (case ho => rfl); (case hx => rfl); (case hy => rfl); (case hi => kernel_rfl); (case hold => rfl); (case h1 => kernel_rfl)))
        generalize wr.alloc (.cells #[.int .i64 rk, .int .i64 rc, .int .i64 re, .int .i64 rn, .int .i64 ra, .string ky, .string vl, .string lo, .string hi, .int .i64 mo, .bool bk, .int .i64 co, .slice pa pn pc] 87) = VV at *
        generalize wr.heap.size = gg at *
        have hq := neq_tx rc re rn tc te tn
        have hg := guard_tx .neq
        by_cases hall : rk = 2 ∧ (rc, re, rn) = (tc, te, tn) ∧ co = 0
        · obtain ⟨rfl, ht, rfl⟩ := hall
          have hd : decide ((rc, re, rn) = (tc, te, tn)) = true := decide_eq_true ht
          rw [hd] at hq
          have HS1 : Hid (rxV (tc, te, tn) l rs = if akOk ra ky vl lo hi mo bk = true then rxF ((rs.drop (k + 1)).filter (dnR (tc, te, tn))) (raD D ra ky vl) (g && decide (raT D ra ky lo hi mo bk = ps)) else ([], false)) := by have h7 := HSD.out; rw [if_pos (HDN.out.2 ⟨rfl, ht, rfl⟩)] at h7; exact h7
          clear HSD HDN ht hd
          have hnv : nv ≤ 1048576 := by have h1 := HNV.out; have h2 := HL.out.few HDA.out HKK.out; omega
          go_wp2_with fail
          refine (specRunAsk_any (fun _ => True) av nv cv D ra ky vl lo hi mo bk _ (HO1.out.pr (fun _ _ _ _ => trivial)) hnv).mono ?_
          rintro e w4 ⟨a4, n4, c4, a5, n5, c5, rfl, hO4, hO5, hb⟩
          have q12 := (KP.out.below hb).cell (j := 12) rfl
          have HP4 := hid (Rw.to HPS.out (only_of_below hb (fun _ => False)) (fun _ _ _ h => h))
          have HB4 := hid (HB1'.out.trans (hb.mono HB1'.out.size))
          cases hr : akOk ra ky vl lo hi mo bk with
          | false =>
            have er : raK D ra ky vl lo hi mo bk = false := by simp [raK, hr]
            have HS2 : Hid (rxV (tc, te, tn) l rs = ([], false)) := by have := HS1.out; simp [hr] at this; exact this
            rw [er]
            clear hO4 hO5 hb er hr HS1 q0 q1 q2 q3 q4 q5 q6 q7 q8 q9 q10 q11 q12 x0 x1 x2
            go_wp2
            go_ret2
            rw [HS2.out]
            exact rx_no (btR HU2.out HB4.out)
          | true =>
            have er : raK D ra ky vl lo hi mo bk = true := by simp [raK, hr, HDA.out]
            have e1 : raDo D ra ky vl lo hi mo bk = raD D ra ky vl := by simp [raDo, er]
            have e2 : raTo D ra ky vl lo hi mo bk = raT D ra ky lo hi mo bk := by simp [raTo, er]
            have HS2 : Hid (rxV (tc, te, tn) l rs = rxF ((rs.drop (k + 1)).filter (dnR (tc, te, tn))) (raD D ra ky vl) (g && decide (raT D ra ky lo hi mo bk = ps))) := by have := HS1.out; simp only [hr, if_true] at this; exact this
            rw [e1] at hO4
            rw [e2] at hO5
            rw [er]
            have HO4 := hid (ow_mono hO4 (Nat.le_trans HS12.out HB1'.out.size))
            have HO5 := hid hO5
            have HD4 := hid (raD_da HDA.out hr)
            have HL4 : Hid (KsD KS (raD D ra ky vl)) := HL.out.raD HKY.out
            clear hO4 hO5 hb er e1 e2 hr HS1 HO1 HPS KP HDA HL HNV hnv HB1' q0 q1 q2 q3 q4 q5 q6 q7 q8 q9 q10 q11 x0 x1 x2
            go_wp2_with fail
            refine (l13Same_any (fun _ => True) S a5 pa n5 pn c5 pc (raT D ra ky lo hi mo bk) ps _ (HO5.out.pr (fun _ _ _ _ => trivial)) HP4.out).mono ?_
            rintro e w5 ⟨rfl, hb⟩
            have HO6 := hid (HO4.out.kept hb)
            have HB5 := hid (HB4.out.trans (hb.mono HB4.out.size))
            clear hb HO4 HO5 HP4 HB4 q12
            cases hsame : decide (raT D ra ky lo hi mo bk = ps) with
            | true =>
              have HS3 := HS2
              rw [hsame, Bool.and_true] at HS3
              clear HS2 hsame
              go_wp2
              go_roundw
              case rel => exact ⟨k + 1, _, _, _, _, _, by omega, by go_num, rfl, rfl, HB5.out, HO6.out, HD4.out, HL4.out, HS3.out⟩
              case measure => simp [intOf]; omega
            | false =>
              have HS3 := HS2
              rw [hsame, Bool.and_false] at HS3
              clear HS2 hsame
              go_wp2
              go_roundw
              case rel => exact ⟨k + 1, _, _, _, _, _, by omega, by go_num, rfl, rfl, HB5.out, HO6.out, HD4.out, HL4.out, HS3.out⟩
              case measure => simp [intOf]; omega
        · have HS1 : Hid (rxV (tc, te, tn) l rs = rxF ((rs.drop (k + 1)).filter (dnR (tc, te, tn))) D g) := by
            have h7 := HSD.out
            rw [if_neg (fun h => hall (HDN.out.1 h))] at h7
            exact h7
          have HL4 := HL
          clear HSD HL HPS HDN
          by_cases h2 : rk = 2
          · subst h2
            by_cases ht : (rc, re, rn) = (tc, te, tn)
            · have hd : decide ((rc, re, rn) = (tc, te, tn)) = true := decide_eq_true ht
              rw [hd] at hq
              have hc0 : ¬ co = 0 := fun e => hall ⟨rfl, ht, e⟩
              clear hall
              go_wp2
              go_roundw
              case rel => exact ⟨k + 1, _, _, _, _, _, by omega, by go_num, rfl, rfl, HB1'.out, HO1.out, HDA.out, HL4.out, HS1.out⟩
              case measure => simp [intOf]; omega
            · have hd : decide ((rc, re, rn) = (tc, te, tn)) = false := decide_eq_false ht
              rw [hd] at hq
              clear hall
              go_wp2
              go_roundw
              case rel => exact ⟨k + 1, _, _, _, _, _, by omega, by go_num, rfl, rfl, HB1'.out, HO1.out, HDA.out, HL4.out, HS1.out⟩
              case measure => simp [intOf]; omega
          · clear hall
            go_wp2
            go_roundw
            case rel => exact ⟨k + 1, _, _, _, _, _, by omega, by go_num, rfl, rfl, HB1'.out, HO1.out, HDA.out, HL4.out, HS1.out⟩
            case measure => simp [intOf]; omega
      · have HVV : Hid (rxV (tc, te, tn) l rs = (D, g)) := by
          have h2 := HV.out
          rw [List.drop_eq_nil_of_le (by rw [← HN.out]; omega)] at h2
          exact h2
        have hlt' : ¬ (k : Int) < (n : Int) := by omega
        clear HV
        go_wp2
        go_ret2
        rw [HVV.out]
        exact ⟨_, _, _, rfl, ow_mono HO.out (Nat.le_trans HB0.out.size HS01.out), btR HU2.out HB.out⟩
end Go.Proofs.Ytjbamfgfgbmieaa
/-
  Serial of the specification.
-/
namespace Go.Proofs.Ytjbamfgfgbmieaa
open Go.RowKit
set_option linter.unusedVariables false
set_option maxHeartbeats 8000000 in
set_option maxRecDepth 20000 in
theorem specSerial_any (S R : Nat → Prop) (a : Option Addr) (n c : Nat) (rs : List RY) (b : Option Addr) (m d : Nat) (ts : List TQ) (w : World) (h : Yr w S (.slice a n c) rs) (ht : tqR w R (.slice b m d) ts) (hs : n ≤ 1048576) :
    Calls Try.prog 24 #[.slice a n c, .slice b m d] w fun e w' => RxPost (seF rs ts []).1 (seF rs ts []).2 w e w' := by
  have hmd := ht.len.2.1
  have hdd := ht.len.2.2
  have HM := hid ht.len.1
  have HKK : Hid ((rs.map (·.ky)).length ≤ 1048576) := by show _ ≤ _; rw [List.length_map, ← h.len.1]; exact hs
  have HKR : Hid (∀ r ∈ rs, r.ky ∈ rs.map (·.ky)) := fun r hr => List.mem_map_of_mem hr
  have HV : Hid (seF rs ts [] = seF rs (ts.drop 0) []) := rfl
  have H0 := hid h
  have T0 := hid ht
  clear h ht
  have B0 := hid (below_new (o := .cells #[] 34) (w := w) (Below.refl _ _))
  have O0 := hid (ow_new w w.heap.size (Nat.le_refl _))
  go_enter Try.func24, Try.ntmps24
  go_wp2_with fail
  go_loopw [6, 8, 9, 10, 14] (fun x p y z i wr => ∃ (k : Nat) (av : Option Addr) (nv cv : Nat) (D : List PB), k ≤ m ∧ i = .int .i64 k ∧ x = .slice av nv cv ∧ Hid (Below w.heap.size w wr) ∧ Hid (Ow wr w.heap.size (.slice av nv cv) D) ∧ Hid (daOk D = true) ∧ Hid (KsD (rs.map (·.ky)) D) ∧ Hid (seF rs ts [] = seF rs (ts.drop k) D)) (fun _ _ _ _ i _ => m - (intOf i).toNat)
  case atStart => exact ⟨0, _, _, _, [], Nat.zero_le _, rfl, rfl, B0.out, O0.out, rfl, ksd_nil _, HV.out⟩
  case round =>
    clear HV O0
    obtain ⟨k, av, nv, cv, D, hk, rfl, rfl, HB, HO, HDA, HL, HV⟩ := hrel
    by_cases hlt : k < m
    · skip
      have hlt' : (k : Int) < (m : Int) := by omega
      have hk0 : (0 : Int) ≤ (k : Int) := by omega
      have hkt : k < ts.length := by rw [← HM.out]; exact hlt
      obtain ⟨b, off, rfl, _, _, hcell⟩ := (T0.out.below HB.out).at (by omega)
      obtain ⟨hc0, hc1, hc2⟩ := hcell k hlt
      have HY := hid (fun hk9 => se_yes (rs := rs) hkt D hk9)
      have HF := hid (fun hk9 => se_bad (rs := rs) hkt D hk9)
      rw [← HV.out] at HY HF
      clear hcell HV
      generalize tqAt ts k = tx at *
      obtain ⟨tc, te, tn⟩ := tx
      simp only at hc0 hc1 hc2
      have hnb := below_new (o := .cells #[.int .i64 tc, .int .i64 te, .int .i64 tn] 48) (w := wr) (Below.refl _ _)
      have HB1 := hid (HB.out.trans (hnb.mono HB.out.size))
      have H1 := hid (H0.out.below HB1.out)
      have P1 := hid ((HO.out.kept hnb).pr (S := fun _ => True) (fun _ _ _ _ => trivial))
      have hnv : nv ≤ 1048576 := by have h1 := (Rw.len P1.out).1; have h2 := HL.out.few HDA.out HKK.out; omega
      have CC := hid (fun (u : World) (hP : Pr u (fun _ => True) (.slice av nv cv) D) (hR : Yr u S (.slice a n c) rs) => specRunTx_any S (fun _ => True) av nv cv D a n c rs tc te tn u hP hR _ HKK.out HL.out HKR.out hnv hs)
      clear hnb HB HO
      go_wp2_with fail
      refine (CC.out _ P1.out H1.out).mono ?_
      generalize wr.alloc (.cells #[.int .i64 tc, .int .i64 te, .int .i64 tn] 48) = U at *
      rintro e w2 ⟨a2, n2, c2, rfl, hO2, hb⟩
      have HB2 := hid (HB1.out.trans (hb.mono HB1.out.size))
      have HO2 := hid (ow_mono hO2 HB1.out.size)
      have HD2 := hid (rxV_da (tc, te, tn) D rs)
      have HL2 := hid (rxV_ks (t := (tc, te, tn)) HKR.out HL.out)
      clear hO2 hb CC P1 H1 hc0 hc1 hc2
      cases hok : (rxV (tc, te, tn) D rs).2 with
      | false =>
        have HF2 := hid (HF.out hok)
        clear hok HF HY
        go_wp2
        go_ret2
        rw [HF2.out]
        exact rx_no HB2.out
      | true =>
        have HY2 := hid (HY.out hok)
        clear hok HF HY
        go_wp2
        go_roundw
        case rel => exact ⟨k + 1, _, _, _, _, by omega, by go_num, rfl, HB2.out, HO2.out, HD2.out, HL2.out, HY2.out⟩
        case measure => simp [intOf]; omega
    · have hlt' : ¬ (k : Int) < (m : Int) := by omega
      have HVF : Hid (seF rs ts [] = (D, true)) := by
        have h2 := HV.out
        rw [List.drop_eq_nil_of_le (by rw [← HM.out]; omega)] at h2
        exact h2
      clear HV
      go_wp2
      go_ret2
      rw [HVF.out]
      exact ⟨_, _, _, rfl, HO.out, HB.out⟩
end Go.Proofs.Ytjbamfgfgbmieaa
/-
  Replies: what the law's helper makes of one.
-/
namespace Go.Proofs.Ytjbamfgfgbmieaa
open Go.RowKit
set_option linter.unusedVariables false
theorem ry_sets {w : World} {g : Nat} {T : TypeId} {z0 z1 z2 z3 z4 z5 z6 z7 z8 z9 z10 z11 z12 : Value} (h : Bk w g T [z0, z1, z2, z3, z4, z5, z6, z7, z8, z9, z10, z11, z12]) (a0 a1 a2 a3 a4 a5 a6 a7 a8 a9 a10 a11 a12 : Value) : Bk (((((((((((((w.setCell ⟨g, 0, none⟩ (a0)).setCell ⟨g, 1, none⟩ (a1)).setCell ⟨g, 2, none⟩ (a2)).setCell ⟨g, 3, none⟩ (a3)).setCell ⟨g, 4, none⟩ (a4)).setCell ⟨g, 5, none⟩ (a5)).setCell ⟨g, 6, none⟩ (a6)).setCell ⟨g, 7, none⟩ (a7)).setCell ⟨g, 8, none⟩ (a8)).setCell ⟨g, 9, none⟩ (a9)).setCell ⟨g, 10, none⟩ (a10)).setCell ⟨g, 11, none⟩ (a11)).setCell ⟨g, 12, none⟩ (a12)) g T [a0, a1, a2, a3, a4, a5, a6, a7, a8, a9, a10, a11, a12] := (setE (setE (setE (setE (setE (setE (setE (setE (setE (setE (setE (setE (setE h 0 a0 (ys := [a0, z1, z2, z3, z4, z5, z6, z7, z8, z9, z10, z11, z12]) rfl) 1 a1 (ys := [a0, a1, z2, z3, z4, z5, z6, z7, z8, z9, z10, z11, z12]) rfl) 2 a2 (ys := [a0, a1, a2, z3, z4, z5, z6, z7, z8, z9, z10, z11, z12]) rfl) 3 a3 (ys := [a0, a1, a2, a3, z4, z5, z6, z7, z8, z9, z10, z11, z12]) rfl) 4 a4 (ys := [a0, a1, a2, a3, a4, z5, z6, z7, z8, z9, z10, z11, z12]) rfl) 5 a5 (ys := [a0, a1, a2, a3, a4, a5, z6, z7, z8, z9, z10, z11, z12]) rfl) 6 a6 (ys := [a0, a1, a2, a3, a4, a5, a6, z7, z8, z9, z10, z11, z12]) rfl) 7 a7 (ys := [a0, a1, a2, a3, a4, a5, a6, a7, z8, z9, z10, z11, z12]) rfl) 8 a8 (ys := [a0, a1, a2, a3, a4, a5, a6, a7, a8, z9, z10, z11, z12]) rfl) 9 a9 (ys := [a0, a1, a2, a3, a4, a5, a6, a7, a8, a9, z10, z11, z12]) rfl) 10 a10 (ys := [a0, a1, a2, a3, a4, a5, a6, a7, a8, a9, a10, z11, z12]) rfl) 11 a11 (ys := [a0, a1, a2, a3, a4, a5, a6, a7, a8, a9, a10, a11, z12]) rfl) 12 a12 (ys := [a0, a1, a2, a3, a4, a5, a6, a7, a8, a9, a10, a11, a12]) rfl)
theorem ry_only {w : World} {g : Nat} {R : Nat → Prop} (hR : R g) (a0 a1 a2 a3 a4 a5 a6 a7 a8 a9 a10 a11 a12 : Value) : Only R w (((((((((((((w.setCell ⟨g, 0, none⟩ (a0)).setCell ⟨g, 1, none⟩ (a1)).setCell ⟨g, 2, none⟩ (a2)).setCell ⟨g, 3, none⟩ (a3)).setCell ⟨g, 4, none⟩ (a4)).setCell ⟨g, 5, none⟩ (a5)).setCell ⟨g, 6, none⟩ (a6)).setCell ⟨g, 7, none⟩ (a7)).setCell ⟨g, 8, none⟩ (a8)).setCell ⟨g, 9, none⟩ (a9)).setCell ⟨g, 10, none⟩ (a10)).setCell ⟨g, 11, none⟩ (a11)).setCell ⟨g, 12, none⟩ (a12)) := (only_step (only_step (only_step (only_step (only_step (only_step (only_step (only_step (only_step (only_step (only_step (only_step (only_set (R := R) (p := ⟨g, 0, none⟩) hR a0) hR 1 a1) hR 2 a2) hR 3 a3) hR 4 a4) hR 5 a5) hR 6 a6) hR 7 a7) hR 8 a8) hR 9 a9) hR 10 a10) hR 11 a11) hR 12 a12)
theorem load_reply {w : World} {g : Nat} {kd c e n k : Int} {ky vl lo hi : ByteArray} {mo : Int} {bk : Bool} {co : Int} {pa : Option Addr} {pn pc : Nat} (c0 : w.cell? ⟨g, 0, none⟩ = some (.int .i64 kd)) (c1 : w.cell? ⟨g, 1, none⟩ = some (.int .i64 c)) (c2 : w.cell? ⟨g, 2, none⟩ = some (.int .i64 e)) (c3 : w.cell? ⟨g, 3, none⟩ = some (.int .i64 n)) (c4 : w.cell? ⟨g, 4, none⟩ = some (.int .i64 k)) (c5 : w.cell? ⟨g, 5, none⟩ = some (.string ky)) (c6 : w.cell? ⟨g, 6, none⟩ = some (.string vl)) (c7 : w.cell? ⟨g, 7, none⟩ = some (.string lo)) (c8 : w.cell? ⟨g, 8, none⟩ = some (.string hi)) (c9 : w.cell? ⟨g, 9, none⟩ = some (.int .i64 mo)) (c10 : w.cell? ⟨g, 10, none⟩ = some (.bool bk)) (c11 : w.cell? ⟨g, 11, none⟩ = some (.int .i64 co)) (c12 : w.cell? ⟨g, 12, none⟩ = some (.slice pa pn pc)) :
    (loadVar 87 ⟨g, 0, none⟩).run Try.prog w = .ok (.agg #[.int .i64 kd, .int .i64 c, .int .i64 e, .int .i64 n, .int .i64 k, .string ky, .string vl, .string lo, .string hi, .int .i64 mo, .bool bk, .int .i64 co, .slice pa pn pc]) w := by go_simp
theorem results_reply {fn : Func} {p : Tmp} (h : fn.results = #[.cell p 87]) (tmps : Array Value) (w : World) (g : Nat) {kd c e n k : Int} {ky vl lo hi : ByteArray} {mo : Int} {bk : Bool} {co : Int} {pa : Option Addr} {pn pc : Nat} (hp : tmps.getD p undef = .pointer (some ⟨g, 0, none⟩)) (c0 : w.cell? ⟨g, 0, none⟩ = some (.int .i64 kd)) (c1 : w.cell? ⟨g, 1, none⟩ = some (.int .i64 c)) (c2 : w.cell? ⟨g, 2, none⟩ = some (.int .i64 e)) (c3 : w.cell? ⟨g, 3, none⟩ = some (.int .i64 n)) (c4 : w.cell? ⟨g, 4, none⟩ = some (.int .i64 k)) (c5 : w.cell? ⟨g, 5, none⟩ = some (.string ky)) (c6 : w.cell? ⟨g, 6, none⟩ = some (.string vl)) (c7 : w.cell? ⟨g, 7, none⟩ = some (.string lo)) (c8 : w.cell? ⟨g, 8, none⟩ = some (.string hi)) (c9 : w.cell? ⟨g, 9, none⟩ = some (.int .i64 mo)) (c10 : w.cell? ⟨g, 10, none⟩ = some (.bool bk)) (c11 : w.cell? ⟨g, 11, none⟩ = some (.int .i64 co)) (c12 : w.cell? ⟨g, 12, none⟩ = some (.slice pa pn pc)) :
    (results fn tmps).run Try.prog w = .ok (.agg #[.int .i64 kd, .int .i64 c, .int .i64 e, .int .i64 n, .int .i64 k, .string ky, .string vl, .string lo, .string hi, .int .i64 mo, .bool bk, .int .i64 co, .slice pa pn pc]) w := by
  have hp' : tmps[p]?.getD undef = .pointer (some ⟨g, 0, none⟩) := by simpa using hp
  simp [results, h, hp', asAddr, load_reply c0 c1 c2 c3 c4 c5 c6 c7 c8 c9 c10 c11 c12]
set_option maxHeartbeats 8000000 in
set_option maxRecDepth 20000 in
theorem toReply_any (S : Nat → Prop) (ps : List PB) (kd c e n k : Int) (ky vl lo hi : ByteArray) (mo : Int) (bk : Bool) (co : Int) (pa : Option Addr) (pn pc : Nat) (w : World) (h1 : Pr w S (.slice pa pn pc) ps) (hh : pn ≤ 1048576) :
    Calls Try.prog 48 #[.agg #[.int .i64 kd, .int .i64 c, .int .i64 e, .int .i64 n, .int .i64 k, .string ky, .string vl, .string lo, .string hi, .int .i64 mo, .bool bk, .int .i64 co, .slice pa pn pc]] w fun r w' => ∃ g0, r = .returned (.agg #[.int .i64 kd, .int .i64 c, .int .i64 e, .int .i64 n, .int .i64 k, .string ky, .string vl, .string lo, .string hi, .int .i64 mo, .bool bk, .int .i64 co, .slice (some ⟨g0, 0, none⟩) pn pn]) ∧ (w.heap.size ≤ g0 ∧ Bk w' g0 34 (pcs ps)) ∧ Below w.heap.size w w' := by
  have HN := hid (Rw.len h1).1
  have B0 : Hid (Below w.heap.size w (((w.alloc (.cells #[.int .i64 kd, .int .i64 c, .int .i64 e, .int .i64 n, .int .i64 k, .string ky, .string vl, .string lo, .string hi, .int .i64 mo, .bool bk, .int .i64 co, .slice pa pn pc] 85)).alloc (.cells #[.int .i64 0, .int .i64 0, .int .i64 0, .int .i64 0, .int .i64 0, .string ⟨#[]⟩, .string ⟨#[]⟩, .string ⟨#[]⟩, .string ⟨#[]⟩, .int .i64 0, .bool false, .int .i64 0, .slice none 0 0] 87)).alloc (.cells #[.int .i64 kd, .int .i64 0, .int .i64 0, .int .i64 0, .int .i64 0, .string ⟨#[]⟩, .string ⟨#[]⟩, .string ⟨#[]⟩, .string ⟨#[]⟩, .int .i64 0, .bool false, .int .i64 0, .slice none 0 0] 87))) := below_new (below_new (below_new (Below.refl _ _)))
  have C1 := hid (fun w => toTx_any c e n w)
  have C2 := hid (fun w => toAsk_any k ky vl lo hi mo bk w)
  have K0 := hid (((Bk.new w 85 [.int .i64 kd, .int .i64 c, .int .i64 e, .int .i64 n, .int .i64 k, .string ky, .string vl, .string lo, .string hi, .int .i64 mo, .bool bk, .int .i64 co, .slice pa pn pc]).alloc (.cells #[.int .i64 0, .int .i64 0, .int .i64 0, .int .i64 0, .int .i64 0, .string ⟨#[]⟩, .string ⟨#[]⟩, .string ⟨#[]⟩, .string ⟨#[]⟩, .int .i64 0, .bool false, .int .i64 0, .slice none 0 0] 87)).alloc (.cells #[.int .i64 kd, .int .i64 0, .int .i64 0, .int .i64 0, .int .i64 0, .string ⟨#[]⟩, .string ⟨#[]⟩, .string ⟨#[]⟩, .string ⟨#[]⟩, .int .i64 0, .bool false, .int .i64 0, .slice none 0 0] 87))
  have J0 := hid ((Bk.new (w.alloc (.cells #[.int .i64 kd, .int .i64 c, .int .i64 e, .int .i64 n, .int .i64 k, .string ky, .string vl, .string lo, .string hi, .int .i64 mo, .bool bk, .int .i64 co, .slice pa pn pc] 85)) 87 [.int .i64 0, .int .i64 0, .int .i64 0, .int .i64 0, .int .i64 0, .string ⟨#[]⟩, .string ⟨#[]⟩, .string ⟨#[]⟩, .string ⟨#[]⟩, .int .i64 0, .bool false, .int .i64 0, .slice none 0 0]).alloc (.cells #[.int .i64 kd, .int .i64 0, .int .i64 0, .int .i64 0, .int .i64 0, .string ⟨#[]⟩, .string ⟨#[]⟩, .string ⟨#[]⟩, .string ⟨#[]⟩, .int .i64 0, .bool false, .int .i64 0, .slice none 0 0] 87))
  have I0 := hid (Bk.new ((w.alloc (.cells #[.int .i64 kd, .int .i64 c, .int .i64 e, .int .i64 n, .int .i64 k, .string ky, .string vl, .string lo, .string hi, .int .i64 mo, .bool bk, .int .i64 co, .slice pa pn pc] 85)).alloc (.cells #[.int .i64 0, .int .i64 0, .int .i64 0, .int .i64 0, .int .i64 0, .string ⟨#[]⟩, .string ⟨#[]⟩, .string ⟨#[]⟩, .string ⟨#[]⟩, .int .i64 0, .bool false, .int .i64 0, .slice none 0 0] 87)) 87 [.int .i64 kd, .int .i64 0, .int .i64 0, .int .i64 0, .int .i64 0, .string ⟨#[]⟩, .string ⟨#[]⟩, .string ⟨#[]⟩, .string ⟨#[]⟩, .int .i64 0, .bool false, .int .i64 0, .slice none 0 0])
  rw [show (w.alloc (.cells #[.int .i64 kd, .int .i64 c, .int .i64 e, .int .i64 n, .int .i64 k, .string ky, .string vl, .string lo, .string hi, .int .i64 mo, .bool bk, .int .i64 co, .slice pa pn pc] 85)).heap.size = w.heap.size + 1 by simp] at J0
  rw [show ((w.alloc (.cells #[.int .i64 kd, .int .i64 c, .int .i64 e, .int .i64 n, .int .i64 k, .string ky, .string vl, .string lo, .string hi, .int .i64 mo, .bool bk, .int .i64 co, .slice pa pn pc] 85)).alloc (.cells #[.int .i64 0, .int .i64 0, .int .i64 0, .int .i64 0, .int .i64 0, .string ⟨#[]⟩, .string ⟨#[]⟩, .string ⟨#[]⟩, .string ⟨#[]⟩, .int .i64 0, .bool false, .int .i64 0, .slice none 0 0] 87)).heap.size = w.heap.size + 1 + 1 by simp] at I0
  have d1 : ¬ w.heap.size = w.heap.size + 1 + 1 := by omega
  have d2 : ¬ w.heap.size + 1 = w.heap.size + 1 + 1 := by omega
  have d3 : ¬ w.heap.size + 1 + 1 = w.heap.size + 1 := by omega
  have d4 : ¬ w.heap.size = w.heap.size + 1 := by omega
  have H0 := hid h1
  clear h1
  go_enter Try.func48, Try.ntmps48
  go_wp2_with fail
  refine (C1.out _).mono ?_
  generalize ((w.alloc (.cells #[.int .i64 kd, .int .i64 c, .int .i64 e, .int .i64 n, .int .i64 k, .string ky, .string vl, .string lo, .string hi, .int .i64 mo, .bool bk, .int .i64 co, .slice pa pn pc] 85)).alloc (.cells #[.int .i64 0, .int .i64 0, .int .i64 0, .int .i64 0, .int .i64 0, .string ⟨#[]⟩, .string ⟨#[]⟩, .string ⟨#[]⟩, .string ⟨#[]⟩, .int .i64 0, .bool false, .int .i64 0, .slice none 0 0] 87)).alloc (.cells #[.int .i64 kd, .int .i64 0, .int .i64 0, .int .i64 0, .int .i64 0, .string ⟨#[]⟩, .string ⟨#[]⟩, .string ⟨#[]⟩, .string ⟨#[]⟩, .int .i64 0, .bool false, .int .i64 0, .slice none 0 0] 87) = U at *
  rintro r w1 ⟨rfl, hb⟩
  have K1 := hid (K0.out.below hb)
  have J1 := hid (J0.out.below hb)
  have I1 := hid (I0.out.below hb)
  have B1 := hid (btR B0.out hb)
  clear hb K0 J0 I0 B0
  have x4 := K1.out.cell (j := 4) rfl
  have x5 := K1.out.cell (j := 5) rfl
  have x6 := K1.out.cell (j := 6) rfl
  have x7 := K1.out.cell (j := 7) rfl
  have x8 := K1.out.cell (j := 8) rfl
  have x9 := K1.out.cell (j := 9) rfl
  have x10 := K1.out.cell (j := 10) rfl
  have y0 := I1.out.cell (j := 0) rfl
  have y1 := I1.out.cell (j := 1) rfl
  have y2 := I1.out.cell (j := 2) rfl
  have y3 := I1.out.cell (j := 3) rfl
  have f1 := I1.out.free 1
  have f2 := I1.out.free 2
  have f3 := I1.out.free 3
  have I2 : Hid (Bk (((w1.setCell ⟨w.heap.size + 1 + 1, 1, none⟩ (.int .i64 c)).setCell ⟨w.heap.size + 1 + 1, 2, none⟩ (.int .i64 e)).setCell ⟨w.heap.size + 1 + 1, 3, none⟩ (.int .i64 n)) (w.heap.size + 1 + 1) 87 [.int .i64 kd, .int .i64 c, .int .i64 e, .int .i64 n, .int .i64 0, .string ⟨#[]⟩, .string ⟨#[]⟩, .string ⟨#[]⟩, .string ⟨#[]⟩, .int .i64 0, .bool false, .int .i64 0, .slice none 0 0]) := (((I1.out.set 1 _).set 2 _).set 3 _)
  have J2 : Hid (Bk (((w1.setCell ⟨w.heap.size + 1 + 1, 1, none⟩ (.int .i64 c)).setCell ⟨w.heap.size + 1 + 1, 2, none⟩ (.int .i64 e)).setCell ⟨w.heap.size + 1 + 1, 3, none⟩ (.int .i64 n)) (w.heap.size + 1) 87 [.int .i64 0, .int .i64 0, .int .i64 0, .int .i64 0, .int .i64 0, .string ⟨#[]⟩, .string ⟨#[]⟩, .string ⟨#[]⟩, .string ⟨#[]⟩, .int .i64 0, .bool false, .int .i64 0, .slice none 0 0]) := (((J1.out.setOther (by omega) _ _).setOther (by omega) _ _).setOther (by omega) _ _)
  have K2 : Hid (Bk (((w1.setCell ⟨w.heap.size + 1 + 1, 1, none⟩ (.int .i64 c)).setCell ⟨w.heap.size + 1 + 1, 2, none⟩ (.int .i64 e)).setCell ⟨w.heap.size + 1 + 1, 3, none⟩ (.int .i64 n)) w.heap.size 85 [.int .i64 kd, .int .i64 c, .int .i64 e, .int .i64 n, .int .i64 k, .string ky, .string vl, .string lo, .string hi, .int .i64 mo, .bool bk, .int .i64 co, .slice pa pn pc]) := (((K1.out.setOther (by omega) _ _).setOther (by omega) _ _).setOther (by omega) _ _)
  have B2 : Hid (Below w.heap.size w (((w1.setCell ⟨w.heap.size + 1 + 1, 1, none⟩ (.int .i64 c)).setCell ⟨w.heap.size + 1 + 1, 2, none⟩ (.int .i64 e)).setCell ⟨w.heap.size + 1 + 1, 3, none⟩ (.int .i64 n))) := (((B1.out.setCell (p := ⟨w.heap.size + 1 + 1, 1, none⟩) (by simp; omega) _).setCell (p := ⟨w.heap.size + 1 + 1, 2, none⟩) (by simp; omega) _).setCell (p := ⟨w.heap.size + 1 + 1, 3, none⟩) (by simp; omega) _)
  go_wp2_with fail
  refine (C2.out _).mono ?_
  generalize (((w1.setCell ⟨w.heap.size + 1 + 1, 1, none⟩ (.int .i64 c)).setCell ⟨w.heap.size + 1 + 1, 2, none⟩ (.int .i64 e)).setCell ⟨w.heap.size + 1 + 1, 3, none⟩ (.int .i64 n)) = V at *
  rintro r w2 ⟨rfl, hb⟩
  have K3 := hid (K2.out.below hb)
  have J3 := hid (J2.out.below hb)
  have I3 := hid (I2.out.below hb)
  have B3 := hid (btR B2.out hb)
  clear hb K1 J1 I1 B1 K2 J2 I2 B2 x4 x5 x6 x7 x8 x9 x10 y0 y1 y2 y3 f1 f2 f3
  have x11 := K3.out.cell (j := 11) rfl
  have x12 := K3.out.cell (j := 12) rfl
  have y0 := I3.out.cell (j := 0) rfl
  have y1 := I3.out.cell (j := 1) rfl
  have y2 := I3.out.cell (j := 2) rfl
  have y3 := I3.out.cell (j := 3) rfl
  have y4 := I3.out.cell (j := 4) rfl
  have y5 := I3.out.cell (j := 5) rfl
  have y6 := I3.out.cell (j := 6) rfl
  have y7 := I3.out.cell (j := 7) rfl
  have y8 := I3.out.cell (j := 8) rfl
  have y9 := I3.out.cell (j := 9) rfl
  have y10 := I3.out.cell (j := 10) rfl
  have y11 := I3.out.cell (j := 11) rfl
  have f4 := I3.out.free 4
  have f5 := I3.out.free 5
  have f6 := I3.out.free 6
  have f7 := I3.out.free 7
  have f8 := I3.out.free 8
  have f9 := I3.out.free 9
  have f10 := I3.out.free 10
  have f11 := I3.out.free 11
  have I4 : Hid (Bk ((((((((w2.setCell ⟨w.heap.size + 1 + 1, 4, none⟩ (.int .i64 k)).setCell ⟨w.heap.size + 1 + 1, 5, none⟩ (.string ky)).setCell ⟨w.heap.size + 1 + 1, 6, none⟩ (.string vl)).setCell ⟨w.heap.size + 1 + 1, 7, none⟩ (.string lo)).setCell ⟨w.heap.size + 1 + 1, 8, none⟩ (.string hi)).setCell ⟨w.heap.size + 1 + 1, 9, none⟩ (.int .i64 mo)).setCell ⟨w.heap.size + 1 + 1, 10, none⟩ (.bool bk)).setCell ⟨w.heap.size + 1 + 1, 11, none⟩ (.int .i64 co)) (w.heap.size + 1 + 1) 87 [.int .i64 kd, .int .i64 c, .int .i64 e, .int .i64 n, .int .i64 k, .string ky, .string vl, .string lo, .string hi, .int .i64 mo, .bool bk, .int .i64 co, .slice none 0 0]) := ((((((((I3.out.set 4 _).set 5 _).set 6 _).set 7 _).set 8 _).set 9 _).set 10 _).set 11 _)
  have J4 : Hid (Bk ((((((((w2.setCell ⟨w.heap.size + 1 + 1, 4, none⟩ (.int .i64 k)).setCell ⟨w.heap.size + 1 + 1, 5, none⟩ (.string ky)).setCell ⟨w.heap.size + 1 + 1, 6, none⟩ (.string vl)).setCell ⟨w.heap.size + 1 + 1, 7, none⟩ (.string lo)).setCell ⟨w.heap.size + 1 + 1, 8, none⟩ (.string hi)).setCell ⟨w.heap.size + 1 + 1, 9, none⟩ (.int .i64 mo)).setCell ⟨w.heap.size + 1 + 1, 10, none⟩ (.bool bk)).setCell ⟨w.heap.size + 1 + 1, 11, none⟩ (.int .i64 co)) (w.heap.size + 1) 87 [.int .i64 0, .int .i64 0, .int .i64 0, .int .i64 0, .int .i64 0, .string ⟨#[]⟩, .string ⟨#[]⟩, .string ⟨#[]⟩, .string ⟨#[]⟩, .int .i64 0, .bool false, .int .i64 0, .slice none 0 0]) := ((((((((J3.out.setOther (by omega) _ _).setOther (by omega) _ _).setOther (by omega) _ _).setOther (by omega) _ _).setOther (by omega) _ _).setOther (by omega) _ _).setOther (by omega) _ _).setOther (by omega) _ _)
  have K4 : Hid (Bk ((((((((w2.setCell ⟨w.heap.size + 1 + 1, 4, none⟩ (.int .i64 k)).setCell ⟨w.heap.size + 1 + 1, 5, none⟩ (.string ky)).setCell ⟨w.heap.size + 1 + 1, 6, none⟩ (.string vl)).setCell ⟨w.heap.size + 1 + 1, 7, none⟩ (.string lo)).setCell ⟨w.heap.size + 1 + 1, 8, none⟩ (.string hi)).setCell ⟨w.heap.size + 1 + 1, 9, none⟩ (.int .i64 mo)).setCell ⟨w.heap.size + 1 + 1, 10, none⟩ (.bool bk)).setCell ⟨w.heap.size + 1 + 1, 11, none⟩ (.int .i64 co)) w.heap.size 85 [.int .i64 kd, .int .i64 c, .int .i64 e, .int .i64 n, .int .i64 k, .string ky, .string vl, .string lo, .string hi, .int .i64 mo, .bool bk, .int .i64 co, .slice pa pn pc]) := ((((((((K3.out.setOther (by omega) _ _).setOther (by omega) _ _).setOther (by omega) _ _).setOther (by omega) _ _).setOther (by omega) _ _).setOther (by omega) _ _).setOther (by omega) _ _).setOther (by omega) _ _)
  have B4 : Hid (Below w.heap.size w ((((((((w2.setCell ⟨w.heap.size + 1 + 1, 4, none⟩ (.int .i64 k)).setCell ⟨w.heap.size + 1 + 1, 5, none⟩ (.string ky)).setCell ⟨w.heap.size + 1 + 1, 6, none⟩ (.string vl)).setCell ⟨w.heap.size + 1 + 1, 7, none⟩ (.string lo)).setCell ⟨w.heap.size + 1 + 1, 8, none⟩ (.string hi)).setCell ⟨w.heap.size + 1 + 1, 9, none⟩ (.int .i64 mo)).setCell ⟨w.heap.size + 1 + 1, 10, none⟩ (.bool bk)).setCell ⟨w.heap.size + 1 + 1, 11, none⟩ (.int .i64 co))) := ((((((((B3.out.setCell (p := ⟨w.heap.size + 1 + 1, 4, none⟩) (by simp; omega) _).setCell (p := ⟨w.heap.size + 1 + 1, 5, none⟩) (by simp; omega) _).setCell (p := ⟨w.heap.size + 1 + 1, 6, none⟩) (by simp; omega) _).setCell (p := ⟨w.heap.size + 1 + 1, 7, none⟩) (by simp; omega) _).setCell (p := ⟨w.heap.size + 1 + 1, 8, none⟩) (by simp; omega) _).setCell (p := ⟨w.heap.size + 1 + 1, 9, none⟩) (by simp; omega) _).setCell (p := ⟨w.heap.size + 1 + 1, 10, none⟩) (by simp; omega) _).setCell (p := ⟨w.heap.size + 1 + 1, 11, none⟩) (by simp; omega) _)
  go_wp2_with fail
  refine (toPairS_at S pa pn pc ps _ (H0.out.below B4.out) hh).mono ?_
  generalize ((((((((w2.setCell ⟨w.heap.size + 1 + 1, 4, none⟩ (.int .i64 k)).setCell ⟨w.heap.size + 1 + 1, 5, none⟩ (.string ky)).setCell ⟨w.heap.size + 1 + 1, 6, none⟩ (.string vl)).setCell ⟨w.heap.size + 1 + 1, 7, none⟩ (.string lo)).setCell ⟨w.heap.size + 1 + 1, 8, none⟩ (.string hi)).setCell ⟨w.heap.size + 1 + 1, 9, none⟩ (.int .i64 mo)).setCell ⟨w.heap.size + 1 + 1, 10, none⟩ (.bool bk)).setCell ⟨w.heap.size + 1 + 1, 11, none⟩ (.int .i64 co)) = V2 at *
  have SV : Hid (w.heap.size + 1 + 1 < V2.heap.size) := I4.out.lt
  generalize hg1 : V2.heap.size = g1 at *
  have HG1 := hid hg1
  clear hg1
  rintro r w3 ⟨rfl, hk, hb⟩
  rw [← HG1.out] at hb
  have E5 := hid hk
  have K5 := hid (K4.out.below hb)
  have J5 := hid (J4.out.below hb)
  have I5 := hid (I4.out.below hb)
  have B5 := hid (B4.out.trans (hb.mono B4.out.size))
  clear hb hk K3 J3 I3 B3 K4 J4 I4 B4 x11 x12 y0 y1 y2 y3 y4 y5 y6 y7 y8 y9 y10 y11 f4 f5 f6 f7 f8 f9 f10 f11
  have y0 := I5.out.cell (j := 0) rfl
  have y1 := I5.out.cell (j := 1) rfl
  have y2 := I5.out.cell (j := 2) rfl
  have y3 := I5.out.cell (j := 3) rfl
  have y4 := I5.out.cell (j := 4) rfl
  have y5 := I5.out.cell (j := 5) rfl
  have y6 := I5.out.cell (j := 6) rfl
  have y7 := I5.out.cell (j := 7) rfl
  have y8 := I5.out.cell (j := 8) rfl
  have y9 := I5.out.cell (j := 9) rfl
  have y10 := I5.out.cell (j := 10) rfl
  have y11 := I5.out.cell (j := 11) rfl
  have y12 := I5.out.cell (j := 12) rfl
  have f12 := I5.out.free 12
  have z0 := J5.out.cell (j := 0) rfl
  have z1 := J5.out.cell (j := 1) rfl
  have z2 := J5.out.cell (j := 2) rfl
  have z3 := J5.out.cell (j := 3) rfl
  have z4 := J5.out.cell (j := 4) rfl
  have z5 := J5.out.cell (j := 5) rfl
  have z6 := J5.out.cell (j := 6) rfl
  have z7 := J5.out.cell (j := 7) rfl
  have z8 := J5.out.cell (j := 8) rfl
  have z9 := J5.out.cell (j := 9) rfl
  have z10 := J5.out.cell (j := 10) rfl
  have z11 := J5.out.cell (j := 11) rfl
  have z12 := J5.out.cell (j := 12) rfl
  have e0 := J5.out.free 0
  have e1 := J5.out.free 1
  have e2 := J5.out.free 2
  have e3 := J5.out.free 3
  have e4 := J5.out.free 4
  have e5 := J5.out.free 5
  have e6 := J5.out.free 6
  have e7 := J5.out.free 7
  have e8 := J5.out.free 8
  have e9 := J5.out.free 9
  have e10 := J5.out.free 10
  have e11 := J5.out.free 11
  have e12 := J5.out.free 12
  have HF : Hid (∀ W, Only (fun y => y = w.heap.size + 1 ∨ y = w.heap.size + 1 + 1) w3 W → (w.heap.size ≤ g1 ∧ Bk W g1 34 (pcs ps)) ∧ Below w.heap.size w W) := fun W hW => by
    have s2 := SV.out
    refine ⟨⟨by omega, E5.out.to hW (fun e => by omega)⟩, B5.out.trans (hW.below B5.out.size (fun b hb e => by omega))⟩
  clear E5 B5
  have J6 : Hid (Bk (w3.setCell ⟨w.heap.size + 1 + 1, 12, none⟩ (.slice (some ⟨g1, 0, none⟩) pn pn)) (w.heap.size + 1) 87 [.int .i64 0, .int .i64 0, .int .i64 0, .int .i64 0, .int .i64 0, .string ⟨#[]⟩, .string ⟨#[]⟩, .string ⟨#[]⟩, .string ⟨#[]⟩, .int .i64 0, .bool false, .int .i64 0, .slice none 0 0]) := J5.out.setOther (by omega) _ _
  have J7 : Hid (Bk ((((((((((((((w3.setCell ⟨w.heap.size + 1 + 1, 12, none⟩ (.slice (some ⟨g1, 0, none⟩) pn pn)).setCell ⟨w.heap.size + 1, 0, none⟩ (.int .i64 kd)).setCell ⟨w.heap.size + 1, 1, none⟩ (.int .i64 c)).setCell ⟨w.heap.size + 1, 2, none⟩ (.int .i64 e)).setCell ⟨w.heap.size + 1, 3, none⟩ (.int .i64 n)).setCell ⟨w.heap.size + 1, 4, none⟩ (.int .i64 k)).setCell ⟨w.heap.size + 1, 5, none⟩ (.string ky)).setCell ⟨w.heap.size + 1, 6, none⟩ (.string vl)).setCell ⟨w.heap.size + 1, 7, none⟩ (.string lo)).setCell ⟨w.heap.size + 1, 8, none⟩ (.string hi)).setCell ⟨w.heap.size + 1, 9, none⟩ (.int .i64 mo)).setCell ⟨w.heap.size + 1, 10, none⟩ (.bool bk)).setCell ⟨w.heap.size + 1, 11, none⟩ (.int .i64 co)).setCell ⟨w.heap.size + 1, 12, none⟩ (.slice (some ⟨g1, 0, none⟩) pn pn)) (w.heap.size + 1) 87 [.int .i64 kd, .int .i64 c, .int .i64 e, .int .i64 n, .int .i64 k, .string ky, .string vl, .string lo, .string hi, .int .i64 mo, .bool bk, .int .i64 co, .slice (some ⟨g1, 0, none⟩) pn pn]) := ry_sets J6.out _ _ _ _ _ _ _ _ _ _ _ _ _
  have O7 : Hid (Only (fun y => y = w.heap.size + 1 ∨ y = w.heap.size + 1 + 1) w3 ((((((((((((((w3.setCell ⟨w.heap.size + 1 + 1, 12, none⟩ (.slice (some ⟨g1, 0, none⟩) pn pn)).setCell ⟨w.heap.size + 1, 0, none⟩ (.int .i64 kd)).setCell ⟨w.heap.size + 1, 1, none⟩ (.int .i64 c)).setCell ⟨w.heap.size + 1, 2, none⟩ (.int .i64 e)).setCell ⟨w.heap.size + 1, 3, none⟩ (.int .i64 n)).setCell ⟨w.heap.size + 1, 4, none⟩ (.int .i64 k)).setCell ⟨w.heap.size + 1, 5, none⟩ (.string ky)).setCell ⟨w.heap.size + 1, 6, none⟩ (.string vl)).setCell ⟨w.heap.size + 1, 7, none⟩ (.string lo)).setCell ⟨w.heap.size + 1, 8, none⟩ (.string hi)).setCell ⟨w.heap.size + 1, 9, none⟩ (.int .i64 mo)).setCell ⟨w.heap.size + 1, 10, none⟩ (.bool bk)).setCell ⟨w.heap.size + 1, 11, none⟩ (.int .i64 co)).setCell ⟨w.heap.size + 1, 12, none⟩ (.slice (some ⟨g1, 0, none⟩) pn pn))) := (only_set (R := fun y => y = w.heap.size + 1 ∨ y = w.heap.size + 1 + 1) (p := ⟨w.heap.size + 1 + 1, 12, none⟩) (.inr rfl) _).trans (ry_only (R := fun y => y = w.heap.size + 1 ∨ y = w.heap.size + 1 + 1) (.inl rfl) _ _ _ _ _ _ _ _ _ _ _ _ _)
  clear J5 J6 K5 I5
  go_wp2
  try simp only [Exit.inBlock, Exit.then]
  generalize ((((((((((((((w3.setCell ⟨w.heap.size + 1 + 1, 12, none⟩ (.slice (some ⟨g1, 0, none⟩) pn pn)).setCell ⟨w.heap.size + 1, 0, none⟩ (.int .i64 kd)).setCell ⟨w.heap.size + 1, 1, none⟩ (.int .i64 c)).setCell ⟨w.heap.size + 1, 2, none⟩ (.int .i64 e)).setCell ⟨w.heap.size + 1, 3, none⟩ (.int .i64 n)).setCell ⟨w.heap.size + 1, 4, none⟩ (.int .i64 k)).setCell ⟨w.heap.size + 1, 5, none⟩ (.string ky)).setCell ⟨w.heap.size + 1, 6, none⟩ (.string vl)).setCell ⟨w.heap.size + 1, 7, none⟩ (.string lo)).setCell ⟨w.heap.size + 1, 8, none⟩ (.string hi)).setCell ⟨w.heap.size + 1, 9, none⟩ (.int .i64 mo)).setCell ⟨w.heap.size + 1, 10, none⟩ (.bool bk)).setCell ⟨w.heap.size + 1, 11, none⟩ (.int .i64 co)).setCell ⟨w.heap.size + 1, 12, none⟩ (.slice (some ⟨g1, 0, none⟩) pn pn)) = W9 at *
  clear y0 y1 y2 y3 y4 y5 y6 y7 y8 y9 y10 y11 y12 z0 z1 z2 z3 z4 z5 z6 z7 z8 z9 z10 z11 z12 e0 e1 e2 e3 e4 e5 e6 e7 e8 e9 e10 e11 e12
  refine bodyPost_ret (v := .agg #[.int .i64 kd, .int .i64 c, .int .i64 e, .int .i64 n, .int .i64 k, .string ky, .string vl, .string lo, .string hi, .int .i64 mo, .bool bk, .int .i64 co, .slice (some ⟨g1, 0, none⟩) pn pn]) ?_ rfl ?_
  · exact results_reply rfl _ _ _ rfl (J7.out.cell (j := 0) rfl) (J7.out.cell (j := 1) rfl) (J7.out.cell (j := 2) rfl) (J7.out.cell (j := 3) rfl) (J7.out.cell (j := 4) rfl) (J7.out.cell (j := 5) rfl) (J7.out.cell (j := 6) rfl) (J7.out.cell (j := 7) rfl) (J7.out.cell (j := 8) rfl) (J7.out.cell (j := 9) rfl) (J7.out.cell (j := 10) rfl) (J7.out.cell (j := 11) rfl) (J7.out.cell (j := 12) rfl)
  · exact ⟨g1, rfl, HF.out _ O7.out⟩
end Go.Proofs.Ytjbamfgfgbmieaa
/-
  Rows of replies: the law's helper makes new ones.
-/
namespace Go.Proofs.Ytjbamfgfgbmieaa
open Go.RowKit
set_option linter.unusedVariables false
/-- New replies: each has its pairs in a block of its own, one behind the other. -/
structure YI (w : World) (g : Nat) (V : List RV) : Prop where
  row : ∀ i, i < V.length → ∃ y, (rvAt V i).2 = .slice (some ⟨y, 0, none⟩) (rvAt V i).1.ps.length (rvAt V i).1.ps.length ∧ g < y ∧ Bk w y 34 (pcs (rvAt V i).1.ps)
  up : ∀ i j y z, i < j → j < V.length → (rvAt V i).2.ownBlock = some y → (rvAt V j).2.ownBlock = some z → y < z
theorem YI.to {w w' : World} {g : Nat} {V : List RV} (h : YI w g V) {R : Nat → Prop} (ho : Only R w w') (hR : ∀ y, g < y → ¬ R y) : YI w' g V :=
  ⟨fun i hi => by obtain ⟨y, h1, h2, h3⟩ := h.row i hi; exact ⟨y, h1, h2, h3.to ho (hR y h2)⟩, h.up⟩
theorem YI.below {w w' : World} {g : Nat} {V : List RV} (h : YI w g V) (hb : Below w.heap.size w w') : YI w' g V :=
  ⟨fun i hi => by obtain ⟨y, h1, h2, h3⟩ := h.row i hi; exact ⟨y, h1, h2, h3.below hb⟩, h.up⟩
theorem rvAt_left {V : List RV} {p : RV} {i : Nat} (h : i < V.length) : rvAt (V ++ [p]) i = rvAt V i := by simp [rvAt, List.getElem?_append_left h]
theorem rvAt_right {V : List RV} {p : RV} : rvAt (V ++ [p]) V.length = p := by simp [rvAt]
theorem YI.push {w w' : World} {g y : Nat} {V : List RV} {r : RY} (h : YI w g V) (hb : Below w.heap.size w w') (hy : w.heap.size ≤ y) (hg : g < y) (hB : Bk w' y 34 (pcs r.ps)) : YI w' g (V ++ [(r, .slice (some ⟨y, 0, none⟩) r.ps.length r.ps.length)]) := by
  have hk := h.below hb
  refine ⟨fun i hi => ?_, fun i j y1 z hij hj h1 h2 => ?_⟩
  · rw [List.length_append, List.length_singleton] at hi
    rcases Nat.lt_or_ge i V.length with hl | hl
    · rw [rvAt_left hl]; exact hk.row i hl
    · have : i = V.length := by omega
      subst this
      rw [rvAt_right]
      exact ⟨y, rfl, hg, hB⟩
  · rw [List.length_append, List.length_singleton] at hj
    rw [rvAt_left (by omega)] at h1
    rcases Nat.lt_or_ge j V.length with hl | hl
    · rw [rvAt_left hl] at h2; exact h.up i j y1 z hij hl h1 h2
    · have : j = V.length := by omega
      subst this
      rw [rvAt_right] at h2
      cases h2
      obtain ⟨y2, e1, _, e3⟩ := h.row i (by omega)
      rw [e1] at h1
      cases h1
      exact Nat.lt_of_lt_of_le e3.lt hy
theorem YI.yr {w : World} {g n : Nat} {V : List RV} (h : YI w g V) (hB : Bk w g 87 (rycs V)) (hn : n = V.length) (hc : n ≤ 9223372036854775807) (hp : ∀ p ∈ V, p.1.ps.length ≤ 1048576) (S : Nat → Prop) (hS : ∀ y, g ≤ y → S y) : Yr w S (.slice (some ⟨g, 0, none⟩) n n) (V.map (·.1)) := by
  subst hn
  refine ⟨V, rfl, hB.rw (Nat.le_refl _) hc (fun h0 => by rw [List.eq_nil_of_length_eq_zero h0]; rfl) S (hS g (Nat.le_refl _)), fun p hm => ?_⟩
  obtain ⟨i, hi, e⟩ := List.mem_iff_getElem.1 hm
  have e2 : rvAt V i = p := by simp [rvAt, hi, e]
  obtain ⟨y, h1, h2, h3⟩ := h.row i hi
  rw [e2] at h1 h3
  rw [h1]
  exact h3.pr rfl (by have := hp p hm; omega) S (hS y (by omega))
theorem bk_mid {g : Nat} {T : TypeId} (C : List Value) : ∀ (N Z A : List Value) (w : World), Bk w g T (A ++ Z ++ C) → Z.length = N.length → Bk (w.setCells g A.length N) g T (A ++ N ++ C)
  | [], Z, A, w, h, hz => by
    have : Z = [] := List.eq_nil_of_length_eq_zero hz
    subst this
    exact h
  | x :: N, [], A, w, h, hz => by simp at hz
  | x :: N, z :: Z, A, w, h, hz => by
    have h1 := h.set A.length x
    have e : (A ++ z :: Z ++ C).set A.length x = (A ++ [x]) ++ Z ++ C := by simp
    rw [e] at h1
    have h2 := bk_mid C N Z (A ++ [x]) _ h1 (by simpa using hz)
    rw [World.setCells]
    simpa using h2
theorem only_mid {R : Nat → Prop} {b : Nat} (h : R b) : ∀ (vs : List Value) (k : Nat) (w : World), Only R w (w.setCells b k vs)
  | [], _, w => Only.refl _ _
  | v :: vs, k, w => by
    rw [World.setCells]
    exact (only_set h v).trans (only_mid h vs (k + 1) _)
def ryZ : RV := (default, .slice none 0 0)
theorem ryZ_cs : ryZ.1.cs ryZ.2 = [.int .i64 0, .int .i64 0, .int .i64 0, .int .i64 0, .int .i64 0, .string ⟨#[]⟩, .string ⟨#[]⟩, .string ⟨#[]⟩, .string ⟨#[]⟩, .int .i64 0, .bool false, .int .i64 0, .slice none 0 0] := rfl
/-- A row of which the first replies are made. -/
def ryPt (V : List RV) (n : Nat) : List RV := V ++ List.replicate (n - V.length) ryZ
theorem ryPt_push (V : List RV) (n : Nat) (h : V.length < n) (q : RV) : rycs (ryPt V n) = rycs V ++ ryZ.1.cs ryZ.2 ++ rycs (List.replicate (n - (V.length + 1)) ryZ) ∧ rycs (ryPt (V ++ [q]) n) = rycs V ++ q.1.cs q.2 ++ rycs (List.replicate (n - (V.length + 1)) ryZ) := by
  have e : n - V.length = (n - (V.length + 1)) + 1 := by omega
  constructor
  · rw [ryPt, e, rycs_append, List.replicate_succ, rycs, List.append_assoc]
  · rw [ryPt, rycs_append, rycs_append, List.length_append, List.length_singleton]
    simp [rycs]
theorem ryPt_full (V : List RV) (n : Nat) (h : n = V.length) : ryPt V n = V := by subst h; simp [ryPt]
theorem infoReplyI : (Try.prog.info? 87).map (fun i => (i.zero, i.size, i.bytes)) = some (some (.agg #[.int .i64 0, .int .i64 0, .int .i64 0, .int .i64 0, .int .i64 0, .string ⟨#[]⟩, .string ⟨#[]⟩, .string ⟨#[]⟩, .string ⟨#[]⟩, .int .i64 0, .bool false, .int .i64 0, .slice none 0 0]), 13, 152) := by kernel_rfl
theorem ry_made (n : Nat) : madeCells (Value.agg #[.int .i64 0, .int .i64 0, .int .i64 0, .int .i64 0, .int .i64 0, .string ⟨#[]⟩, .string ⟨#[]⟩, .string ⟨#[]⟩, .string ⟨#[]⟩, .int .i64 0, .bool false, .int .i64 0, .slice none 0 0]).cells (n * 13) = (rycs (List.replicate n ryZ)).toArray := by
  apply Array.ext
  · simp [madeCells, rycs_length]
  · intro i h1 h2
    simp [rycs_length] at h2
    simp only [madeCells, List.getElem_toArray]
    have hq : rvAt (List.replicate n ryZ) (i / 13) = ryZ := by simp [rvAt, show i / 13 < n by omega]
    have h0 := rycs_at (List.replicate n ryZ) (i / 13) (by simp; omega)
    rw [hq, ryZ_cs] at h0
    have hm : i % 13 < 13 := Nat.mod_lt _ (by omega)
    have hs : (Value.agg #[.int .i64 0, .int .i64 0, .int .i64 0, .int .i64 0, .int .i64 0, .string ⟨#[]⟩, .string ⟨#[]⟩, .string ⟨#[]⟩, .string ⟨#[]⟩, .int .i64 0, .bool false, .int .i64 0, .slice none 0 0]).cells.size = 13 := by simp [Value.cells]
    obtain ⟨u, hu⟩ : ∃ u, ([.int .i64 0, .int .i64 0, .int .i64 0, .int .i64 0, .int .i64 0, .string ⟨#[]⟩, .string ⟨#[]⟩, .string ⟨#[]⟩, .string ⟨#[]⟩, .int .i64 0, .bool false, .int .i64 0, .slice none 0 0] : List Value)[i % 13]? = some u := ⟨_, List.getElem?_eq_getElem (by simpa using hm)⟩
    have h3 := h0 (i % 13) u hu
    rw [show i / 13 * 13 + i % 13 = i by omega] at h3
    have h4 := (List.getElem?_eq_some_iff.1 h3).2
    rw [h4]
    have hc : (Value.agg #[.int .i64 0, .int .i64 0, .int .i64 0, .int .i64 0, .int .i64 0, .string ⟨#[]⟩, .string ⟨#[]⟩, .string ⟨#[]⟩, .string ⟨#[]⟩, .int .i64 0, .bool false, .int .i64 0, .slice none 0 0]).cells = ([.int .i64 0, .int .i64 0, .int .i64 0, .int .i64 0, .int .i64 0, .string ⟨#[]⟩, .string ⟨#[]⟩, .string ⟨#[]⟩, .string ⟨#[]⟩, .int .i64 0, .bool false, .int .i64 0, .slice none 0 0] : List Value).toArray := by simp [Value.cells]
    simp only [Array.getElem_map, Array.getElem_range, hs]
    rw [hc]
    have hm2 : i % 13 < ([.int .i64 0, .int .i64 0, .int .i64 0, .int .i64 0, .int .i64 0, .string ⟨#[]⟩, .string ⟨#[]⟩, .string ⟨#[]⟩, .string ⟨#[]⟩, .int .i64 0, .bool false, .int .i64 0, .slice none 0 0] : List Value).length := by simpa using hm
    have h5 := (List.getElem?_eq_some_iff.1 hu).2
    simp only [getElem!_def, List.getElem?_toArray, hu]
end Go.Proofs.Ytjbamfgfgbmieaa
