/-
  The laws FnExactMetaOk, FnExactMetaBytes and FnExactMetaRead answer true at every argument.
-/
import Derived.Test.YtpgogpphobafoaaDoorMtJ
import Derived.Test.YtpgogpphobafoaaDoorMarks
namespace Go.Proofs.YtpgogpphobafoaaDoor
open Go.RowKit
theorem results_mt1 {fn : Func} {p : Tmp} (h : fn.results = #[.cell p 44]) (tmps : Array Value) (w : World) (g : Nat) {x y : Value} (hp : tmps.getD p undef = .pointer (some ⟨g, 0, none⟩))
    (c0 : w.cell? ⟨g, 0, none⟩ = some x) (c1 : w.cell? ⟨g, 1, none⟩ = some y) : (results fn tmps).run Tryd.prog w = .ok (.agg #[x, y]) w := by
  have hp' : tmps[p]?.getD undef = .pointer (some ⟨g, 0, none⟩) := by simpa using hp
  have hl : (loadVar 44 ⟨g, 0, none⟩).run Tryd.prog w = .ok (.agg #[x, y]) w := by go_simp
  simp [results, h, hp', asAddr, hl]
set_option maxHeartbeats 800000 in
theorem toMeta_any (g r : Int) (w : World) : Calls Tryd.prog 21 #[.agg #[.int .i64 g, .int .i64 r]] w fun e w' => e = .returned (.agg #[.int .i64 g, .int .i64 r]) ∧ Below w.heap.size w w' := by
  go_enter Tryd.func21, Tryd.ntmps21
  go_wp2
  refine bodyPost_ret (results_mt1 (x := .int .i64 g) (y := .int .i64 r) rfl _ _ _ rfl (by go_simp) (by go_simp)) rfl ?_
  exact ⟨rfl, below_new (below_new (below_new (Below.refl _ _)))⟩
set_option maxHeartbeats 800000 in
theorem eqMeta_same (g r : Int) (w : World) : Calls Tryd.prog 25 #[.agg #[.int .i64 g, .int .i64 r], .agg #[.int .i64 g, .int .i64 r]] w fun e w' => e = .returned (.bool true) ∧ Below w.heap.size w w' := by
  have h1 : (g != g) = false := by simp
  have h2 : (r != r) = false := by simp
  go_enter Tryd.func25, Tryd.ntmps25
  go_wp2
  go_ret
  exact ⟨rfl, below_new (below_new (Below.refl _ _))⟩
theorem mt_facts (g r : Int) : (∀ i : Nat, 0 ≤ ((mtBytes g r).getD [])[i]?.getD 0 ∧ ((mtBytes g r).getD [])[i]?.getD 0 ≤ 255) ∧ ((mtBytes g r).getD []).length ≤ 4096 := by
  unfold mtBytes
  split
  · rename_i h
    obtain ⟨g0, g1, r0, r1⟩ := mtOk_facts h
    exact ⟨byte_at (mtFull_byte r0 r1), by rw [Option.getD_some, mtFull_len]; omega⟩
  · simp
/-- What a put leaves, in one form. -/
theorem Put.see {w w' : World} {r : Option (List Int)} {e : Ending} (h : Put w r e w') (hb : ∀ i : Nat, 0 ≤ (r.getD [])[i]?.getD 0 ∧ (r.getD [])[i]?.getD 0 ≤ 255) (hl : (r.getD []).length ≤ 4096) :
    ∃ a c, e = .returned (.tuple #[.slice a (r.getD []).length c, .bool r.isSome]) ∧ Rd w' a (r.getD []).length c (r.getD []) ∧ (∀ x, a = some x → w.heap.size ≤ x.block) ∧ Wb w' a (r.getD []).length ∧ Below w.heap.size w w' := by
  obtain ⟨hbel, ⟨rfl, rfl⟩ | ⟨v, zs, rfl, rfl, ho⟩⟩ := h
  · exact ⟨none, 0, rfl, ⟨rfl, by simp, by omega, by simp, by simp, fun h => by simp at h⟩, (fun x hx => by cases hx), (fun x hx => by cases hx), hbel⟩
  · simp only [Option.getD_some] at hb hl ⊢
    obtain ⟨a, c, rfl, hrd, hB⟩ := ho.rd hb (by omega)
    exact ⟨a, c, rfl, hrd, hB, ho.wb rfl _, hbel⟩
set_option maxHeartbeats 4000000 in
set_option maxRecDepth 20000 in
theorem lawMetaBytes_walk (g r : Int) (w : World) (_hg : (Lit.int .i64 g).wf = true ∧ (Lit.int .i64 r).wf = true) (he : Err w 1) (he2 : Err w 0) (_l1 : 1 < w.heap.size) (_l2 : 0 < w.heap.size) :
    Calls Tryd.prog 5 #[.agg #[.int .i64 g, .int .i64 r]] w fun e w' => e = .returned (.bool true) ∧ Below w.heap.size w w' := by
  have B0 := hid (below_new (o := .cells #[.int .i64 g, .int .i64 r] 42) (w := w) (Below.refl _ _))
  have K0 := hid (Bk.new w 42 [.int .i64 g, .int .i64 r])
  have HE := hid he
  have HE2 := hid he2
  clear he he2 _hg _l1 _l2
  have HS := hid (specMetaBytes_any g r)
  have HI := hid (implMetaBytes_any g r)
  have HF := hid (mt_facts g r)
  generalize mtBytes g r = o at HS HI HF
  have hbb : (o.isSome != o.isSome) = false := by simp
  have HL : Hid ((o.getD []).length ≤ 4096) := HF.out.2
  have HV : Hid (∀ (w w' : World) (e : Ending), Put w o e w' → ∃ a c, e = .returned (.tuple #[.slice a (o.getD []).length c, .bool o.isSome]) ∧ Rd w' a (o.getD []).length c (o.getD []) ∧ (∀ x, a = some x → w.heap.size ≤ x.block) ∧ Wb w' a (o.getD []).length ∧ Below w.heap.size w w') := fun w w' e h => h.see HF.out.1 HF.out.2
  generalize o.getD [] = out at *
  generalize o.isSome = bo at *
  generalize out.length = L at *
  clear HF
  go_enter Tryd.func5, Tryd.ntmps5
  go_wp2_with fail
  refine (toMeta_any g r _).mono ?_
  generalize w.alloc (.cells #[.int .i64 g, .int .i64 r] 42) = U at *
  rintro e w1 ⟨rfl, hb1⟩
  have B1 := hid (btw B0.out hb1)
  have K1 := hid (K0.out.below hb1)
  clear hb1 B0 K0
  go_wp2_with fail
  refine (HS.out w1).mono ?_
  intro e w2 hp
  obtain ⟨a0, c0, rfl, hr0, -, -, hb2⟩ := HV.out _ _ _ hp
  have RW := hid hr0
  have B2 := hid (btw B1.out hb2)
  have K2 := hid (K1.out.below hb2)
  clear hp hr0 hb2 B1 K1 HS
  have k0 := K2.out.cell (j := 0) rfl
  have k1 := K2.out.cell (j := 1) rfl
  go_wp2_with fail
  refine (toMeta_any g r _).mono ?_
  rintro e w3 ⟨rfl, hb3⟩
  have B3 := hid (btw B2.out hb3)
  have C3 := hid hb3
  have K3 := hid (K2.out.below hb3)
  have KL := hid K3.out.lt
  clear hb3 K2 k0 k1
  go_wp2_with fail
  refine (HI.out w3 (HE.out.below B3.out HE.out.lt) (HE2.out.below B3.out HE2.out.lt)).mono ?_
  intro e w4 hp
  obtain ⟨a1, c1, rfl, hr1, hB1, hwb1, hb4⟩ := HV.out _ _ _ hp
  have C4 := hid (btw C3.out hb4)
  have B4 := hid (btw B3.out hb4)
  have K4 := hid (K3.out.below hb4)
  have G4 := hid hr1
  have GB := hid hB1
  have GW := hid hwb1
  clear hp hr1 hB1 hwb1 hb4 K3
  go_wp2_with fail
  refine (eqByteS_same a1 a0 L L c1 c0 out _ G4.out (RW.out.kept C4.out)).mono ?_
  rintro e w5 ⟨rfl, q5, hw5⟩
  have E5 := hid (show Below w4.heap.size w4 w5 by rw [hw5]; exact Below.drewN' (Below.refl _ _) q5)
  clear hw5
  have C5 := hid (btw C4.out E5.out)
  have B5 := hid (btw B4.out E5.out)
  have K5 := hid (K4.out.below E5.out)
  have R5 := hid (G4.out.kept E5.out)
  have W5 := hid (GW.out.below E5.out G4.out.lt)
  clear C4 B4 K4 G4 GW E5
  -- marks in the answer
  have hl := HL.out
  go_wp2_with fail
  refine (mark_any a1 L c1 out 1 _ R5.out W5.out (by omega) (by omega)).mono ?_
  rintro e w6 ⟨rfl, hm6, hg6⟩
  have M6 := hid hm6
  have hrow : ∀ k, a1.map (·.block) = some k → w3.heap.size ≤ k := by
    intro k hk
    cases a1 with
    | none => cases hk
    | some x => simp at hk; rw [← hk]; exact GB.out x rfl
  have C6 := hid (C5.out.grown hg6 C5.out.size (fun k hk => by have := hrow k hk; have := C3.out.size; omega))
  have B6 := hid (B5.out.grown hg6 B5.out.size (fun k hk => by have := hrow k hk; have := B3.out.size; omega))
  have K6 : Hid (Bk w6 w.heap.size 42 [.int .i64 g, .int .i64 r]) := K5.out.to (only_of_grown hg6 (R := fun y => a1.map (·.block) = some y) (fun k e => e)) (fun e => by have := hrow _ e; have := B3.out.size; have := C3.out.size; have := B2.out.size; have := K5.out.lt; have := KL.out; omega)
  clear hm6 hg6 hrow C5 B5 K5 R5 W5
  go_wp2_with fail
  refine (held_any a1 L c1 1 _ M6.out (by omega) (by omega)).mono ?_
  rintro e w6' ⟨rfl, rfl⟩
  have hk2 : ¬ (1 + (L : Int)) < 0 := by omega
  have hk3 : ((1 + (L : Int)) != (1 + (L : Int))) = false := by simp
  -- once more
  have k0 := K6.out.cell (j := 0) rfl
  have k1 := K6.out.cell (j := 1) rfl
  go_wp2_with fail
  refine (toMeta_any g r _).mono ?_
  rintro e w7 ⟨rfl, hb7⟩
  have F7 := hid hb7
  have C7 := hid (btw C6.out hb7)
  have B7 := hid (btw B6.out hb7)
  clear hb7 k0 k1 K6
  go_wp2_with fail
  refine (HI.out w7 (HE.out.below B7.out HE.out.lt) (HE2.out.below B7.out HE2.out.lt)).mono ?_
  intro e w8 hp
  obtain ⟨a2, c2, rfl, hr2, -, -, hb8⟩ := HV.out _ _ _ hp
  have R8 := hid hr2
  have F8 := hid (btw F7.out hb8)
  have C8 := hid (btw C7.out hb8)
  have B8 := hid (btw B7.out hb8)
  clear hp hr2 hb8 F7 C7 B7
  go_wp2_with fail
  refine (eqByteS_same a2 a0 L L c2 c0 out _ R8.out (RW.out.kept C8.out)).mono ?_
  rintro e w9 ⟨rfl, q9, hw9⟩
  have F9 := hid (show Below w8.heap.size w8 w9 by rw [hw9]; exact Below.drewN' (Below.refl _ _) q9)
  clear hw9
  have K9 := hid (btw F8.out F9.out)
  have B9 := hid (btw B8.out F9.out)
  go_wp2_with fail
  refine (held_any a1 L c1 1 _ (M6.out.kept K9.out) (by omega) (by omega)).mono ?_
  rintro e w9' ⟨rfl, rfl⟩
  go_wp2
  go_ret
  exact ⟨rfl, B9.out⟩
theorem MrPost.see {zs : List Int} {w w' : World} {e : Ending} (h : MrPost (mrd zs) w e w') : ∃ g r : Int, ∃ b : Bool, (g = ((mrd zs).getD (0, 0)).1 ∧ r = ((mrd zs).getD (0, 0)).2 ∧ b = (mrd zs).isSome) ∧ e = .returned (.tuple #[.agg #[.int .i64 g, .int .i64 r], .bool b]) ∧ Below w.heap.size w w' := by
  obtain ⟨hb, ⟨h1, h2⟩ | ⟨g, r, h1, h2⟩⟩ := h
  · exact ⟨0, 0, false, by rw [h1]; exact ⟨rfl, rfl, rfl⟩, h2, hb⟩
  · exact ⟨g, r, true, by rw [h1]; exact ⟨rfl, rfl, rfl⟩, h2, hb⟩
set_option maxHeartbeats 4000000 in
set_option maxRecDepth 20000 in
theorem lawMetaRead_road (a : Option Addr) (n c : Nat) (zs : List Int) (w : World) (h : Rd w a n c zs) (hn : n ≤ 1048576) (he : Err w 1) (he2 : Err w 0) :
    Calls Tryd.prog 6 #[.slice a n c] w fun e w' => e = .returned (.bool true) ∧ Below w.heap.size w w' := by
  have HR := hid h
  have HE := hid he
  have HE2 := hid he2
  have HN : Hid (n = zs.length) := h.1
  have HB : Hid (∀ i : Nat, 0 ≤ zs[i]?.getD 0 ∧ zs[i]?.getD 0 ≤ 255) := h.2.2.2.2.1
  clear h he he2
  have NEW : Hid (∀ w : World, Rd (w.alloc (.cells (byteVals zs) 5)) (some ⟨w.heap.size, 0, none⟩) n n zs) := by
    intro w
    have := rd_new w zs (by rw [← HN.out]; omega) HB.out
    rw [← HN.out] at this; exact this
  have HO : Hid (∃ (g r : Int) (b : Bool), g = ((mrd zs).getD (0, 0)).1 ∧ r = ((mrd zs).getD (0, 0)).2 ∧ b = (mrd zs).isSome) := ⟨_, _, _, rfl, rfl, rfl⟩
  obtain ⟨g, r, b, eg, er, eb⟩ := HO.out
  have HV : Hid (∀ (w w' : World) (e : Ending), MrPost (mrd zs) w e w' → e = .returned (.tuple #[.agg #[.int .i64 g, .int .i64 r], .bool b]) ∧ Below w.heap.size w w') := by
    intro w w' e h
    obtain ⟨g', r', b', ⟨h1, h2, h3⟩, h4, h5⟩ := h.see
    rw [← eg] at h1
    rw [← er] at h2
    rw [← eb] at h3
    rw [← h1, ← h2, ← h3]
    exact ⟨h4, h5⟩
  clear HO eg er eb
  have hns : ¬ (1048576 : Int) < (n : Int) := by omega
  have hbb : (b != b) = false := by simp
  go_enter Tryd.func6, Tryd.ntmps6
  go_wp2_with fail
  refine (toByteS_any a n c zs _ HR.out).mono ?_
  rintro e w1 ⟨rfl, hw1⟩
  have B1 := hid (show Below w.heap.size w w1 by rw [hw1]; exact (Below.refl _ _).alloc (Nat.le_refl _) _)
  have R1 := hid (show Rd w1 (some ⟨w.heap.size, 0, none⟩) n n zs by rw [hw1]; exact NEW.out w)
  clear hw1
  go_wp2_with fail
  refine (specMetaRead_any _ n n zs w1 R1.out).mono ?_
  intro e w2 hp
  obtain ⟨rfl, hb2⟩ := HV.out _ _ _ hp
  have B2 := hid (btw B1.out hb2)
  clear hp hb2 B1 R1
  have hb3 := below_new (o := .cells #[.int .i64 g, .int .i64 r] 44) (w := w2) (Below.refl _ _)
  have K3 := hid (Bk.new w2 44 [.int .i64 g, .int .i64 r])
  have B3 := hid (btw B2.out hb3)
  clear hb3 B2
  go_wp2_with fail
  refine (toByteS_any a n c zs _ (HR.out.kept B3.out)).mono ?_
  generalize w2.alloc (.cells #[.int .i64 g, .int .i64 r] 44) = w3 at *
  generalize w2.heap.size = x2 at *
  rintro e w4 ⟨rfl, hw4⟩
  have hb4 : Below w3.heap.size w3 w4 := by rw [hw4]; exact (Below.refl _ _).alloc (Nat.le_refl _) _
  have X4 := hid (show Rd w4 (some ⟨w3.heap.size, 0, none⟩) n n zs by rw [hw4]; exact NEW.out w3)
  have K4 := hid (K3.out.below hb4)
  have B4 := hid (btw B3.out hb4)
  clear hw4 hb4 K3 B3
  generalize w3.heap.size = x3 at *
  go_wp2_with fail
  refine (implMetaRead_any _ n n zs w4 X4.out (HE.out.below B4.out HE.out.lt) (HE2.out.below B4.out HE2.out.lt)).mono ?_
  intro e w5 hp
  obtain ⟨rfl, hb5⟩ := HV.out _ _ _ hp
  have X5 := hid (X4.out.kept hb5)
  have K5 := hid (K4.out.below hb5)
  have B5 := hid (btw B4.out hb5)
  clear hp hb5 B4 K4 X4
  have hb6 := below_new (o := .cells #[.int .i64 g, .int .i64 r] 44) (w := w5) (Below.refl _ _)
  have G6 := hid (Bk.new w5 44 [.int .i64 g, .int .i64 r])
  have X6 := hid (X5.out.kept hb6)
  have K6 := hid (K5.out.below hb6)
  have B6 := hid (btw B5.out hb6)
  clear hb6 B5 K5 X5
  have k0 := K6.out.cell (j := 0) rfl
  have k1 := K6.out.cell (j := 1) rfl
  have g0 := G6.out.cell (j := 0) rfl
  have g1 := G6.out.cell (j := 1) rfl
  go_wp2_with fail
  refine (eqMeta_same g r _).mono ?_
  generalize w5.alloc (.cells #[.int .i64 g, .int .i64 r] 44) = w6 at *
  generalize w5.heap.size = x5 at *
  rintro e w7 ⟨rfl, hb7⟩
  have X7 := hid (X6.out.kept hb7)
  have B7 := hid (btw B6.out hb7)
  clear hb7 X6 B6 K6 G6 k0 k1 g0 g1
  go_wp2_with fail
  refine (toByteS_any a n c zs _ (HR.out.kept B7.out)).mono ?_
  rintro e w8 ⟨rfl, hw8⟩
  have hb8 : Below w7.heap.size w7 w8 := by rw [hw8]; exact (Below.refl _ _).alloc (Nat.le_refl _) _
  have Y8 := hid (show Rd w8 (some ⟨w7.heap.size, 0, none⟩) n n zs by rw [hw8]; exact NEW.out w7)
  have X8 := hid (X7.out.kept hb8)
  have B8 := hid (btw B7.out hb8)
  clear hw8 hb8 X7 B7
  go_wp2_with fail
  refine (eqByteS_same _ _ n n n n zs _ X8.out Y8.out).mono ?_
  rintro e w9 ⟨rfl, q9, hw9⟩
  have B9 := hid (show Below w.heap.size w w9 by rw [hw9]; exact Below.drewN' B8.out q9)
  clear hw9
  go_wp2
  go_ret
  exact ⟨rfl, B9.out⟩
theorem lawMetaRead_walk (a : Option Addr) (n c : Nat) (z0 : List Int) (w : World) (w0 : IsRow .u8 w a n c z0) (he : Err w 1) (he2 : Err w 0) (_l1 : 1 < w.heap.size) (_l2 : 0 < w.heap.size) :
    Calls Tryd.prog 6 #[.slice a n c] w fun e w' => e = .returned (.bool true) ∧ Below w.heap.size w w' := by
  by_cases hbig : 1048576 < n
  · have hb' : (1048576 : Int) < (n : Int) := by omega
    clear w0 he he2 _l1 _l2
    go_enter Tryd.func6, Tryd.ntmps6
    go_wp2
    go_ret
    exact ⟨rfl, Below.refl _ _⟩
  · exact lawMetaRead_road a n c _ w (rd_of_row w0 (by omega)) (by omega) he he2
end Go.Proofs.YtpgogpphobafoaaDoor

