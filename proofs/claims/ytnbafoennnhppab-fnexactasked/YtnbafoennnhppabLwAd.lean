/-
  The law FnExactAsked answers true at every log and name.
-/
import Derived.Test.YtnbafoennnhppabRyD1
import Derived.Test.YtnbafoennnhppabRyD3
import Derived.Test.YtnbafoennnhppabRyC4
import Derived.Test.YtnbafoennnhppabRyC2
import Derived.Test.YtnbafoennnhppabRyC3
import Derived.Test.YtnbafoennnhppabKl
namespace Go.Proofs.Ytnbafoennnhppab
open Go.RowKit
set_option linter.unusedVariables false
theorem klY {u v : World} {a0 a1 a2 : Addr} {x0 x1 x2 : Value} (h : KL u v [(a0, x0), (a1, x1), (a2, x2)]) : v.cell? a0 = some x0 ∧ v.cell? a1 = some x1 ∧ v.cell? a2 = some x2 ∧ KL u v [(a0, x0), (a1, x1), (a2, x2)] := ⟨h.at (by simp), h.at (by simp), h.at (by simp), h⟩
theorem klYc {u v v' : World} {a0 a1 a2 : Addr} {x0 x1 x2 : Value} (k : Below v.heap.size v v') (h : v.cell? a0 = some x0 ∧ v.cell? a1 = some x1 ∧ v.cell? a2 = some x2 ∧ KL u v [(a0, x0), (a1, x1), (a2, x2)]) : v'.cell? a0 = some x0 ∧ v'.cell? a1 = some x1 ∧ v'.cell? a2 = some x2 ∧ KL u v' [(a0, x0), (a1, x1), (a2, x2)] := klY (KL.call h.2.2.2 k)
theorem klY_bel {u v : World} {a0 a1 a2 : Addr} {x0 x1 x2 : Value} (h : v.cell? a0 = some x0 ∧ v.cell? a1 = some x1 ∧ v.cell? a2 = some x2 ∧ KL u v [(a0, x0), (a1, x1), (a2, x2)]) : Below u.heap.size u v := KL.bel h.2.2.2
theorem klY_0 {u : World} {a0 a1 a2 : Addr} {x0 x1 x2 : Value} (h0 : u.cell? a0 = some x0) (h1 : u.cell? a1 = some x1) (h2 : u.cell? a2 = some x2) : KL u u [(a0, x0), (a1, x1), (a2, x2)] := ⟨fun p hp => by
    simp only [List.mem_cons, List.not_mem_nil, or_false] at hp
    rcases hp with rfl | rfl | rfl <;> assumption, Below.refl _ _⟩
theorem yi_yr {w : World} {g n : Nat} {V : List RV} {rs : List RY} (hV : V.map (·.1) = rs) (hB : Bk w g 46 (rycs V)) (hY : YI w g V) (hn : n = rs.length) (hnm : n ≤ 1048576) (hp : ∀ r ∈ rs, r.ps.length ≤ 1048576) : Yr w (fun _ => True) (.slice (some ⟨g, 0, none⟩) n n) rs := by
  have h1 : n = V.length := by rw [hn, ← hV, List.length_map]
  have h2 := hY.yr hB h1 (by omega) (fun p hm => hp _ (by rw [← hV]; exact List.mem_map_of_mem hm)) (fun _ => True) (fun _ _ => trivial)
  rw [hV] at h2
  exact h2
set_option maxHeartbeats 8000000 in
set_option maxRecDepth 20000 in
theorem lawAsked_walk (a : Option Addr) (n c : Nat) (rs : List RY) (tc te tn : Int) (w : World) (h : Yr w (fun _ => True) (.slice a n c) rs ∧ rySz rs) :
    Calls Try.prog 4 #[.slice a n c, .agg #[.int .i64 tc, .int .i64 te, .int .i64 tn]] w fun e w' => e = .returned (.bool true) ∧ Below w.heap.size w w' := by
  have hb0 := below_new (o := .cells #[.int .i64 tc, .int .i64 te, .int .i64 tn] 24) (w := w) (Below.refl _ _)
  have B0 := hid hb0
  have K0 := hid (Bk.new w 24 [.int .i64 tc, .int .i64 te, .int .i64 tn])
  have H0 := hid (h.1.below hb0)
  have HZ := hid h.2
  have HN := hid h.1.len.1
  clear h hb0
  go_enter Try.func4, Try.ntmps4
  go_wp2_with fail
  refine (szReplyS_at _ a n c rs 1048576 _ H0.out HZ.out (by omega) (by omega)).mono ?_
  generalize w.alloc (.cells #[.int .i64 tc, .int .i64 te, .int .i64 tn] 24) = U at *
  rintro e w1 ⟨⟨x, rfl, hx, hx1, hx2⟩, hb⟩
  have B1 := hid (B0.out.trans (hb.mono B0.out.size))
  have K1 := hid (K0.out.below hb)
  have H1 := hid (H0.out.below hb)
  have HX := hid hx2
  clear hb hx2 B0 K0 H0 HZ
  by_cases hneg : x < 0
  · go_wp2
    go_ret
    exact ⟨rfl, B1.out⟩
  have HM := hid (HX.out (by omega))
  have hnm : n ≤ 1048576 := by have := HM.out.1; omega
  have HP := hid HM.out.2
  clear HX HM
  have k0 := K1.out.cell (j := 0) rfl
  have k1 := K1.out.cell (j := 1) rfl
  have k2 := K1.out.cell (j := 2) rfl
  have T1 := hid (klY_0 k0 k1 k2)
  have CT := hid (fun v => toTx_any tc te tn v)
  have CR := hid (fun u (hb : Below w1.heap.size w1 u) => toReplyS_at _ a n c rs u (H1.out.below hb) hnm HP.out)
  have CY := hid (fun (u : World) (g : Nat) (V : List RV) hV hB hY => yi_yr (w := u) (g := g) (V := V) hV hB hY HN.out hnm HP.out)
  go_wp2_with fail
  go_region_held3 (fun v => v.cell? ⟨w.heap.size, 0, none⟩ = some (.int .i64 tc) ∧ v.cell? ⟨w.heap.size, 1, none⟩ = some (.int .i64 te) ∧ v.cell? ⟨w.heap.size, 2, none⟩ = some (.int .i64 tn) ∧ KL w1 v [(⟨w.heap.size, 0, none⟩, .int .i64 tc), (⟨w.heap.size, 1, none⟩, .int .i64 te), (⟨w.heap.size, 2, none⟩, .int .i64 tn)])
    (first | assumption | exact klY (T1.out.call (below_drew _)) | exact klYc hbC (by assumption))
    (first
      | (go_at_call 7; refine (CR.out _ (klY_bel (by assumption))).mono ?_; rintro e wa ⟨rfl, ⟨Va, hVa, hBa, hYa⟩, hbC⟩; have hYra := CY.out _ _ _ hVa hBa hYa)
      | (go_at_call 8; refine (CT.out _).mono ?_; rintro e wb ⟨rfl, hbC⟩; have hYrb := hYra.below hbC)
      | (go_at_call 11; refine (specAsked_any (fun _ => True) _ n n rs tc te tn _ hYrb).mono ?_; rintro e w3 ⟨rfl, hbC⟩))
  rename_i hS
  have hb := klY_bel hS
  have B3 := hid (B1.out.trans (hb.mono B1.out.size))
  have K3 := hid (K1.out.below hb)
  have HB3 := hid hb
  obtain ⟨z, hz⟩ : ∃ z, z = akN (tc, te, tn) rs := ⟨_, rfl⟩
  rw [← hz]
  have HZ := hid hz
  have hzz : (z != z) = false := by simp
  clear hS hb hbC hYra hYrb hVa hBa hYa T1 B1 K1 k0 k1 k2 hz
  go_wp2_with fail
  refine (CR.out _ HB3.out).mono ?_
  rintro e w4 ⟨rfl, ⟨V4, hV, hB, hY⟩, hb⟩
  have Y4 := hid (CY.out _ _ _ hV hB hY)
  have B4 := hid (B3.out.trans (hb.mono B3.out.size))
  have K4 := hid (K3.out.below hb)
  have HB4 := hid (HB3.out.trans (hb.mono HB3.out.size))
  clear hV hB hY hb B3 K3 HB3
  have k0 := K4.out.cell (j := 0) rfl
  have k1 := K4.out.cell (j := 1) rfl
  have k2 := K4.out.cell (j := 2) rfl
  go_wp2_with fail
  refine (CT.out _).mono ?_
  rintro e w5 ⟨rfl, hb⟩
  have Y5 := hid (Y4.out.below hb)
  have B5 := hid (B4.out.trans (hb.mono B4.out.size))
  have HB5 := hid (HB4.out.trans (hb.mono HB4.out.size))
  clear hb Y4 B4 HB4 K4 k0 k1 k2
  go_wp2_with fail
  refine (implAsked_any (fun _ => True) _ n n rs tc te tn _ Y5.out hnm).mono ?_
  rintro e w6 ⟨rfl, hb⟩
  rw [← HZ.out]
  have Y6 := hid (Y5.out.below hb)
  have B6 := hid (B5.out.trans (hb.mono B5.out.size))
  have HB6 := hid (HB5.out.trans (hb.mono HB5.out.size))
  clear hb Y5 B5 HB5
  go_wp2_with fail
  refine (CR.out _ HB6.out).mono ?_
  rintro e w7 ⟨rfl, ⟨V7, hV, hB, hY⟩, hb⟩
  have Y7 := hid (CY.out _ _ _ hV hB hY)
  have X7 := hid (Y6.out.below hb)
  have B7 := hid (B6.out.trans (hb.mono B6.out.size))
  clear hV hB hY hb Y6 B6 HB6
  go_wp2_with fail
  refine (eqReplyS_same _ _ _ _ n n n n rs _ X7.out Y7.out).mono ?_
  rintro e w8 ⟨rfl, hb⟩
  have B8 := hid (B7.out.trans (hb.mono B7.out.size))
  clear hb B7 X7 Y7
  go_wp2
  go_ret
  exact ⟨rfl, B8.out⟩
end Go.Proofs.Ytnbafoennnhppab

