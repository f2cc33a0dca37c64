/-
  MetaRead of the specification; metas are read as they were written, and torn ones aren't read as new ones.
-/
import Derived.Test.YtijinngmfalfcabDoorMtB
import Derived.Deep.RegionLaw
import Derived.Deep.DeepCutAuto
namespace Go.Proofs.YtijinngmfalfcabDoor
open Go.RowKit
def acc (zs : List Int) : Nat → Int
  | 0 => 0
  | j + 1 => acc zs j * 256 + zAt zs (j + 1)
def mcd (zs : List Int) : Int × Int := (acc zs 5, zAt zs 6 * 256 + zAt zs 7)
def mrd (zs : List Int) : Option (Int × Int) := if zs.length = 512 ∧ mtBytes (mcd zs).1 (mcd zs).2 = some zs then some (mcd zs) else none
theorem acc_rng {zs : List Int} (hb : ∀ i : Nat, 0 ≤ zs[i]?.getD 0 ∧ zs[i]?.getD 0 ≤ 255) : ∀ j, j ≤ 5 → 0 ≤ acc zs j ∧ acc zs j < 1099511627776 ∧ (j ≤ 4 → acc zs j < 4294967296) ∧ (j ≤ 3 → acc zs j < 16777216) ∧ (j ≤ 2 → acc zs j < 65536) ∧ (j ≤ 1 → acc zs j < 256) ∧ (j ≤ 0 → acc zs j < 1)
  | 0, _ => by simp [acc]
  | j + 1, h => by
    have h1 := acc_rng hb j (by omega)
    have h2 := hb (j + 1)
    have e : acc zs (j + 1) = acc zs j * 256 + zs[j + 1]?.getD 0 := rfl
    rw [e]
    omega
theorem results_mt2 {fn : Func} {p u : Tmp} (h : fn.results = #[.cell p 41, .tmp u]) (tmps : Array Value) (w : World) (g : Nat) {x y b : Value} (hp : tmps.getD p undef = .pointer (some ⟨g, 0, none⟩)) (hb : tmps.getD u undef = b)
    (c0 : w.cell? ⟨g, 0, none⟩ = some x) (c1 : w.cell? ⟨g, 1, none⟩ = some y) : (results fn tmps).run Tryd.prog w = .ok (.tuple #[.agg #[x, y], b]) w := by
  have hp' : tmps[p]?.getD undef = .pointer (some ⟨g, 0, none⟩) := by simpa using hp
  have hb' : tmps[u]?.getD undef = b := by simpa using hb
  have hl : (loadVar 41 ⟨g, 0, none⟩).run Tryd.prog w = .ok (.agg #[x, y]) w := by go_simp
  simp [results, h, hp', hb', asAddr, hl, Result.andThen]
def MrPost (o : Option (Int × Int)) (w : World) (e : Ending) (w' : World) : Prop := Below w.heap.size w w' ∧ ((o = none ∧ e = .returned (.tuple #[.agg #[.int .i64 0, .int .i64 0], .bool false])) ∨ ∃ g r, o = some (g, r) ∧ e = .returned (.tuple #[.agg #[.int .i64 g, .int .i64 r], .bool true]))
/-- The boxes of the result and of the meta that is being read. -/
structure Mb (w v : World) (g r : Int) : Prop where
  be : Below w.heap.size w v
  rb : Bk v w.heap.size 41 [.int .i64 0, .int .i64 0]
  bk : Bk v (w.heap.size + 1) 41 [.int .i64 g, .int .i64 r]
theorem Mb.below {w v v' : World} {g r : Int} (h : Mb w v g r) (hb : Below v.heap.size v v') : Mb w v' g r := ⟨btw h.be hb, h.rb.below hb, h.bk.below hb⟩
theorem Mb.set0 {w v : World} {g r : Int} (h : Mb w v g r) (g' : Int) : Mb w (v.setCell ⟨w.heap.size + 1, 0, none⟩ (.int .i64 g')) g' r := ⟨h.be.setCell (p := ⟨w.heap.size + 1, 0, none⟩) (Nat.le_succ _) _, h.rb.setOther (by omega) _ _, h.bk.set 0 _⟩
theorem Mb.set1 {w v : World} {g r : Int} (h : Mb w v g r) (r' : Int) : Mb w (v.setCell ⟨w.heap.size + 1, 1, none⟩ (.int .i64 r')) g r' := ⟨h.be.setCell (p := ⟨w.heap.size + 1, 1, none⟩) (Nat.le_succ _) _, h.rb.setOther (by omega) _ _, h.bk.set 1 _⟩
theorem Mb.cells {w v : World} {g r : Int} (h : Mb w v g r) : v.cell? ⟨w.heap.size + 1, 0, none⟩ = some (.int .i64 g) ∧ v.cell? ⟨w.heap.size + 1, 1, none⟩ = some (.int .i64 r) ∧ v.frozen? ⟨w.heap.size + 1, 0, none⟩ = false ∧ v.frozen? ⟨w.heap.size + 1, 1, none⟩ = false := ⟨h.bk.cell (j := 0) rfl, h.bk.cell (j := 1) rfl, h.bk.free 0, h.bk.free 1⟩
theorem Mb.rcells {w v : World} {g r : Int} (h : Mb w v g r) : v.cell? ⟨w.heap.size, 0, none⟩ = some (.int .i64 0) ∧ v.cell? ⟨w.heap.size, 1, none⟩ = some (.int .i64 0) ∧ v.frozen? ⟨w.heap.size, 0, none⟩ = false ∧ v.frozen? ⟨w.heap.size, 1, none⟩ = false := ⟨h.rb.cell (j := 0) rfl, h.rb.cell (j := 1) rfl, h.rb.free 0, h.rb.free 1⟩
theorem Mb.out {w v : World} {g r : Int} (h : Mb w v g r) (x y : Value) : Below w.heap.size w ((v.setCell ⟨w.heap.size, 0, none⟩ x).setCell ⟨w.heap.size, 1, none⟩ y) := (h.be.setCell (p := ⟨w.heap.size, 0, none⟩) (Nat.le_refl _) _).setCell (p := ⟨w.heap.size, 1, none⟩) (Nat.le_refl _) _
set_option maxHeartbeats 4000000 in
set_option maxRecDepth 20000 in
theorem specMetaRead_any (a : Option Addr) (n c : Nat) (zs : List Int) (w : World) (h : Rd w a n c zs) :
    Calls Tryd.prog 40 #[.slice a n c] w fun e w' => MrPost (mrd zs) w e w' := by
  have hzl : n = zs.length := h.1
  have HBY := hid h.2.2.2.2.1
  have HR := hid h
  have M0 : Hid (Mb w ((w.alloc (.cells #[.int .i64 0, .int .i64 0] 41)).alloc (.cells #[.int .i64 0, .int .i64 0] 41)) 0 0) := by
    have k1 := Bk.new (w.alloc (.cells #[.int .i64 0, .int .i64 0] 41)) 41 [.int .i64 0, .int .i64 0]
    exact ⟨below_new (below_new (Below.refl _ _)), (Bk.new w 41 [.int .i64 0, .int .i64 0]).alloc _, by simpa using k1⟩
  obtain ⟨p0, p1, pf0, pf1⟩ := M0.out.cells
  obtain ⟨r0, r1, rf0, rf1⟩ := M0.out.rcells
  by_cases h512 : n = 512
  · subst h512
    have HZL : Hid (zs.length = 512) := hzl.symm
    obtain ⟨b, off, rfl, hbl, hcell⟩ := h.2.2.2.2.2 (by omega)
    have HC : Hid (∀ v, Below w.heap.size w v → ∀ i, i < 512 → v.cell? ⟨b, off + i, none⟩ = some (.int .u8 (zAt zs i))) := by
      intro v hb i hi
      rw [hb.cell (p := ⟨b, off + i, none⟩) hbl]
      exact hcell i hi
    have HNB : Hid (b < w.heap.size) := hbl
    clear hcell hbl hzl h p0 p1 pf0 pf1 r0 r1 rf0 rf1
    go_enter Tryd.func40, Tryd.ntmps40
    go_wp2_with fail
    generalize (w.alloc (.cells #[.int .i64 0, .int .i64 0] 41)).alloc (.cells #[.int .i64 0, .int .i64 0] 41) = U at *
    go_loopw [5] (fun i wr => ∃ (j : Nat), j ≤ 5 ∧ i = .int .i64 ((j : Int) + 1) ∧ Hid (Mb w wr (acc zs j) 0)) (fun i _ => 6 - (intOf i).toNat)
    case atStart => exact ⟨0, by omega, rfl, M0.out⟩
    case round =>
      obtain ⟨j, hj, rfl, M1⟩ := hrel
      clear M0
      by_cases hlt : j < 5
      · have hlt' : (j : Int) + 1 < 6 := by omega
        have M2 := hid (M1.out.below (below_drew _))
        obtain ⟨p0, p1, pf0, pf1⟩ := M2.out.cells
        have m0 := HC.out _ M2.out.be (j + 1) (by omega)
        have hac := acc_rng HBY.out j (by omega)
        have hz := HBY.out (j + 1)
        have HST : Hid (acc zs (j + 1) = acc zs j * 256 + zAt zs (j + 1)) := rfl
        have hz' : 0 ≤ zAt zs (j + 1) ∧ zAt zs (j + 1) ≤ 255 := hz
        have hac0 := hac.1
        have hac1 : acc zs j < 4294967296 := hac.2.2.1 (by omega)
        have M3 := hid (M2.out.set0 (acc zs (j + 1)))
        rw [HST.out] at M3
        clear hz hac M1
        generalize acc zs j = G at *
        generalize zAt zs (j + 1) = z at *
        have hw1 : IntKind.i64.wrap (G * 256) = G * 256 := by simp [IntKind.wrap, IntKind.signed, IntKind.bits]; omega
        have hw2 : IntKind.i64.wrap z = z := by simp [IntKind.wrap, IntKind.signed, IntKind.bits]; omega
        have hw3 : IntKind.i64.wrap (G * 256 + z) = G * 256 + z := by simp [IntKind.wrap, IntKind.signed, IntKind.bits]; omega
        have hi2 : (j : Int) + 1 < 512 := by omega
        have hi3 : (0 : Int) ≤ (j : Int) + 1 := by omega
        go_wp2_with fail
        go_region_with (fail)
        all_goals
          clear p0 p1 pf0 pf1 m0 M2 hw1 hw2 hw3
          go_wp2
          go_roundw
          case rel => exact ⟨j + 1, by omega, by go_num, by rw [HST.out]; exact M3.out⟩
          case measure => simp [intOf]; omega
      · obtain rfl : j = 5 := by omega
        have M2 := hid (M1.out.below (below_drew _))
        obtain ⟨p0, p1, pf0, pf1⟩ := M2.out.cells
        have m6 := HC.out _ M2.out.be 6 (by omega)
        have m7 := HC.out _ M2.out.be 7 (by omega)
        have hz6 : 0 ≤ zAt zs 6 ∧ zAt zs 6 ≤ 255 := HBY.out 6
        have hz7 : 0 ≤ zAt zs 7 ∧ zAt zs 7 ≤ 255 := HBY.out 7
        have HM : Hid (mcd zs = (acc zs 5, zAt zs 6 * 256 + zAt zs 7)) := rfl
        have M3 := hid (M2.out.set1 (zAt zs 6 * 256 + zAt zs 7))
        clear M1
        generalize acc zs 5 = G at *
        generalize zAt zs 6 = y at *
        generalize zAt zs 7 = z at *
        have hw1 : IntKind.i64.wrap (y * 256) = y * 256 := by simp [IntKind.wrap, IntKind.signed, IntKind.bits]; omega
        have hw2 : IntKind.i64.wrap z = z := by simp [IntKind.wrap, IntKind.signed, IntKind.bits]; omega
        have hw3 : IntKind.i64.wrap (y * 256 + z) = y * 256 + z := by simp [IntKind.wrap, IntKind.signed, IntKind.bits]; omega
        have hw4 : IntKind.i64.wrap y = y := by simp [IntKind.wrap, IntKind.signed, IntKind.bits]; omega
        go_wp2_with fail
        go_cut [5] (fun x v => x = x ∧ Hid (Mb w v G (y * 256 + z)))
        case first =>
          go_region_with (fail)
          all_goals (go_wp2_with fail; go_meet)
          all_goals exact ⟨trivial, M3.out⟩
        case rest =>
          obtain ⟨-, M4⟩ := hcut
          clear p0 p1 pf0 pf1 m6 m7 M2 M3 hw1 hw2 hw3 hw4
          obtain ⟨p0, p1, pf0, pf1⟩ := M4.out.cells
          generalize y * 256 + z = R at *
          go_wp2_with fail
          refine (specMetaBytes_any G R _).mono ?_
          intro e w5 hput
          obtain ⟨hb5, ⟨hnn, rfl⟩ | ⟨v5, bs, hss, rfl, hO5⟩⟩ := hput
          · have HPR : Hid (mrd zs = none) := by
              show mrd zs = none
              rw [mrd, if_neg]
              rintro ⟨_, h⟩
              rw [HM.out, hnn] at h
              cases h
            have M5 := hid (M4.out.below hb5)
            obtain ⟨r0, r1, rf0, rf1⟩ := M5.out.rcells
            clear hb5 hnn M4 p0 p1 pf0 pf1
            go_wp2
            refine bodyPost_ret (results_mt2 (x := .int .i64 0) (y := .int .i64 0) rfl _ _ _ rfl rfl (by go_simp) (by go_simp)) rfl ?_
            exact ⟨M5.out.out _ _, .inl ⟨HPR.out, rfl⟩⟩
          · have hbs : (∀ z ∈ bs, 0 ≤ z ∧ z ≤ 255) ∧ bs.length = 512 := by
              unfold mtBytes at hss
              split at hss
              · rename_i hok
                cases hss
                have := mtOk_facts hok
                exact ⟨mtFull_byte this.2.2.1 this.2.2.2, mtFull_len _ _⟩
              · cases hss
            obtain ⟨a5, c5, e5, hR5, _⟩ := hO5.rd (byte_at hbs.1) (by rw [hbs.2]; omega)
            rw [hbs.2] at e5 hR5
            subst e5
            have R5 := hid hR5
            have M5 := hid (M4.out.below hb5)
            have RB := hid (HR.out.kept M5.out.be)
            have HSS := hid hss
            clear hb5 hO5 hR5 hbs hss M4 p0 p1 pf0 pf1
            obtain ⟨p0, p1, pf0, pf1⟩ := M5.out.cells
            obtain ⟨r0, r1, rf0, rf1⟩ := M5.out.rcells
            go_wp2_with fail
            refine (same_any a5 _ 512 _ c5 _ bs zs _ R5.out RB.out).mono ?_
            by_cases heq : bs = zs
            · have HPR : Hid (mrd zs = some (G, R)) := by
                show mrd zs = some (G, R)
                rw [mrd, if_pos, HM.out]
                exact ⟨HZL.out, by rw [HM.out, HSS.out, heq]⟩
              rw [decide_eq_true heq]
              rintro e w6 ⟨rfl, rfl⟩
              clear R5 RB HSS heq
              go_wp2
              refine bodyPost_ret (results_mt2 (x := .int .i64 G) (y := .int .i64 R) rfl _ _ _ rfl rfl (by go_simp) (by go_simp)) rfl ?_
              exact ⟨M5.out.out _ _, .inr ⟨G, R, HPR.out, rfl⟩⟩
            · have HPR : Hid (mrd zs = none) := by
                show mrd zs = none
                rw [mrd, if_neg]
                rintro ⟨_, h⟩
                rw [HM.out, HSS.out] at h
                cases h
                exact heq rfl
              rw [decide_eq_false heq]
              rintro e w6 ⟨rfl, rfl⟩
              clear R5 RB HSS heq
              go_wp2
              refine bodyPost_ret (results_mt2 (x := .int .i64 0) (y := .int .i64 0) rfl _ _ _ rfl rfl (by go_simp) (by go_simp)) rfl ?_
              exact ⟨M5.out.out _ _, .inl ⟨HPR.out, rfl⟩⟩
  · have h512' : ((n : Int) != 512) = true := by simp; omega
    have HPR : Hid (mrd zs = none) := by
      show mrd zs = none
      rw [mrd, if_neg]
      rintro ⟨h, _⟩
      omega
    have HBF := hid M0.out.be
    clear HBY HR M0 h hzl
    go_enter Tryd.func40, Tryd.ntmps40
    go_wp2
    refine bodyPost_ret (results_mt2 (x := .int .i64 0) (y := .int .i64 0) rfl _ _ _ rfl rfl (by go_simp) (by go_simp)) rfl ?_
    exact ⟨HBF.out, .inl ⟨HPR.out, rfl⟩⟩
end Go.Proofs.YtijinngmfalfcabDoor

