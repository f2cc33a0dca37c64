/-
  Cells that are kept while a stretch of the program reads and calls in an order that is not known: eight and twelve of them.
-/
import Derived.Test.YtmilnejacnaejaaGreatDoorMo1
import Derived.Test.YtmilnejacnaejaaGreatDoorMo8
import Derived.Test.YtmilnejacnaejaaGreatDoorMo9
import Derived.Test.YtmilnejacnaejaaGreatDoorMo4
import Derived.Test.YtmilnejacnaejaaGreatDoorMo7
import Derived.ProofKit
import Derived.OpenShut
import Derived.ChangeOld
import Derived.Stop.LaidErr
namespace Go.Proofs.YtmilnejacnaejaaGreatDoor
open Go.RowKit
structure KL (u v : World) (cs : List (Addr × Value)) : Prop where
  cells : ∀ p ∈ cs, u.cell? p.1 = some p.2
  bel : Below u.heap.size u v
theorem KL.at {u v : World} {cs : List (Addr × Value)} (h : KL u v cs) {a : Addr} {x : Value} (hp : (a, x) ∈ cs) : v.cell? a = some x := by
  have hc := h.cells (a, x) hp
  rw [h.bel.cell (p := a) (block_lt hc)]
  exact hc
theorem KL.call {u v v' : World} {cs : List (Addr × Value)} (h : KL u v cs) (k : Below v.heap.size v v') : KL u v' cs := ⟨h.cells, h.bel.trans (k.mono h.bel.size)⟩
theorem kl2 {u v : World} {a0 a1 : Addr} {x0 x1 : Value} (h : KL u v [(a0, x0), (a1, x1)]) : v.cell? a0 = some x0 ∧ v.cell? a1 = some x1 ∧ KL u v [(a0, x0), (a1, x1)] := ⟨h.at (by simp), h.at (by simp), h⟩
theorem kl2c {u v v' : World} {a0 a1 : Addr} {x0 x1 : Value} (k : Below v.heap.size v v') (h : v.cell? a0 = some x0 ∧ v.cell? a1 = some x1 ∧ KL u v [(a0, x0), (a1, x1)]) : v'.cell? a0 = some x0 ∧ v'.cell? a1 = some x1 ∧ KL u v' [(a0, x0), (a1, x1)] := kl2 (KL.call h.2.2 k)
theorem kl2_bel {u v : World} {a0 a1 : Addr} {x0 x1 : Value} (h : v.cell? a0 = some x0 ∧ v.cell? a1 = some x1 ∧ KL u v [(a0, x0), (a1, x1)]) : Below u.heap.size u v := KL.bel h.2.2
theorem kl2_0 {u : World} {a0 a1 : Addr} {x0 x1 : Value} (h0 : u.cell? a0 = some x0) (h1 : u.cell? a1 = some x1) : KL u u [(a0, x0), (a1, x1)] := ⟨fun p hp => by
    simp only [List.mem_cons, List.not_mem_nil, or_false] at hp
    rcases hp with rfl | rfl <;> assumption, Below.refl _ _⟩
open Go.RowKit
set_option linter.unusedVariables false
def snOk (n : Int) : Prop := 2 ≤ n ∧ n ≤ 400
instance (n : Int) : Decidable (snOk n) := inferInstanceAs (Decidable (2 ≤ n ∧ n ≤ 400))
def snX (n : Int) : DK := if snOk n then snD n else ⟨[], []⟩
def snG (n : Int) : Int := if snOk n then 1 else 0
theorem sno_nil (w : World) (B : Nat) : StO w B none 0 0 none 0 0 none 0 0 none 0 0 [] [] [] ⟨[], []⟩ ([], []) :=
  ⟨do_nil w B, ⟨na_nil _, World.ownsRow_nil _ _ _ _, rfl, fun y e => (by cases e), fun i hi => (by simp at hi), fun y e => (by cases e)⟩, fun y h => (by
    rintro (e | e | ⟨i, hi, _⟩)
    · cases e
    · cases e
    · simp at hi)⟩
def SnPost (n : Int) (w : World) (e : Ending) (w' : World) : Prop := Below w.heap.size w w' ∧ ∃ xa xn xc ya yn yc na nn nc pa pn pc Vd U V, e = .returned (.tuple #[.agg #[.slice xa xn xc, .slice ya yn yc, .int .i64 (snG n), .slice na nn nc, .slice pa pn pc], .bool (decide (snOk n))]) ∧ StO w' w.heap.size xa xn xc ya yn yc na nn nc pa pn pc Vd U V (snX n) ([], [])
theorem sn_no {n : Int} {w w' : World} (h : ¬ snOk n) (hb : Below w.heap.size w w') : SnPost n w (.returned (.tuple #[.agg #[.slice none 0 0, .slice none 0 0, .int .i64 0, .slice none 0 0, .slice none 0 0], .bool false])) w' := by
  refine ⟨hb, none, 0, 0, none, 0, 0, none, 0, 0, none, 0, 0, [], [], [], ?_, ?_⟩
  · rw [snG, if_neg h, decide_eq_false h]
  · rw [snX, if_neg h]
    exact sno_nil _ _
theorem sn_yes {n : Int} {w w' : World} {xa : Option Addr} {xn xc : Nat} {ya : Option Addr} {yn yc : Nat} {na : Option Addr} {nn nc : Nat} {pa : Option Addr} {pn pc : Nat} {Vd : List Value} {U : List (Int × Value)} {V : List V3} (h : snOk n) (hb : Below w.heap.size w w') (ho : StO w' w.heap.size xa xn xc ya yn yc na nn nc pa pn pc Vd U V (snD n) ([], [])) : SnPost n w (.returned (.tuple #[.agg #[.slice xa xn xc, .slice ya yn yc, .int .i64 1, .slice na nn nc, .slice pa pn pc], .bool true])) w' := by
  refine ⟨hb, xa, xn, xc, ya, yn, yc, na, nn, nc, pa, pn, pc, Vd, U, V, ?_, ?_⟩
  · rw [snG, if_pos h, decide_eq_true h]
  · rw [snX, if_pos h]
    exact ho
theorem sto_to {v v' : World} {R : Nat → Prop} {B : Nat} {xa : Option Addr} {xn xc : Nat} {ya : Option Addr} {yn yc : Nat} {na : Option Addr} {nn nc : Nat} {pa : Option Addr} {pn pc : Nat} {Vd : List Value} {Ud : List (Int × Value)} {V : List V3} {d : DK} {s : LS} (h : StO v B xa xn xc ya yn yc na nn nc pa pn pc Vd Ud V d s) (ho : Only R v v') (hR : ∀ y, stb xa xn xc ya yn yc na nn nc pa pn pc Vd Ud V s y → ¬ R y) : StO v' B xa xn xc ya yn yc na nn nc pa pn pc Vd Ud V d s :=
  ⟨h.dk.to ho (fun y hy => hR y (.inl hy)), h.sn.to ho (fun y hy => hR y (.inr hy)), h.ap⟩
theorem sto_base {v : World} {B B' : Nat} {xa : Option Addr} {xn xc : Nat} {ya : Option Addr} {yn yc : Nat} {na : Option Addr} {nn nc : Nat} {pa : Option Addr} {pn pc : Nat} {Vd : List Value} {Ud : List (Int × Value)} {V : List V3} {d : DK} {s : LS} (h : StO v B xa xn xc ya yn yc na nn nc pa pn pc Vd Ud V d s) (hB : B' ≤ B) : StO v B' xa xn xc ya yn yc na nn nc pa pn pc Vd Ud V d s := ⟨h.dk.base hB, h.sn.base hB, h.ap⟩
theorem sto_lt {v : World} {B : Nat} {xa : Option Addr} {xn xc : Nat} {ya : Option Addr} {yn yc : Nat} {na : Option Addr} {nn nc : Nat} {pa : Option Addr} {pn pc : Nat} {Vd : List Value} {Ud : List (Int × Value)} {V : List V3} {d : DK} {s : LS} (h : StO v B xa xn xc ya yn yc na nn nc pa pn pc Vd Ud V d s) {y : Nat} (hy : stb xa xn xc ya yn yc na nn nc pa pn pc Vd Ud V s y) : B ≤ y ∧ y < v.heap.size := hy.elim h.dk.lt h.sn.lt
structure SnB (n : Int) (w v : World) (rb gb B : Nat) (xa : Option Addr) (xn xc : Nat) (ya : Option Addr) (yn yc : Nat) (na : Option Addr) (nn nc : Nat) (pa : Option Addr) (pn pc : Nat) (Vd : List Value) (U : List (Int × Value)) (V : List V3) : Prop where
  bel : Below w.heap.size w v
  rbk : Bk v rb 31 [.slice none 0 0, .slice none 0 0, .int .i64 0, .slice none 0 0, .slice none 0 0]
  box : Bk v gb 31 [.slice xa xn xc, .slice ya yn yc, .int .i64 1, .slice na nn nc, .slice pa pn pc]
  own : StO v B xa xn xc ya yn yc na nn nc pa pn pc Vd U V (snD n) ([], [])
  sep : ∀ y, stb xa xn xc ya yn yc na nn nc pa pn pc Vd U V ([], []) y → y ≠ gb
theorem sn0_small (n : Int) : smallD (sn0 n) := ⟨fun i hi => by
    have : shAt (sn0 n).sh i = [] := by
      simp [sn0, shAt, List.getElem?_replicate]
      split <;> rfl
    rw [this]; exact Nat.zero_le _, fun i hi => by simp [sn0] at hi⟩
theorem snD_small {n : Int} (h : 2 ≤ n ∧ n ≤ 400) : smallD (snD n) := ⟨fun i hi => by
    by_cases e : i = 1
    · subst e
      rw [sn_at1 h, snM_len]; decide
    · have : shAt (snD n).sh i = [] := by
        simp [snD, shAt, List.getElem?_set_ne (fun q => e q.symm), List.getElem?_replicate]
        split <;> rfl
      rw [this]; exact Nat.zero_le _, fun i hi => by simp [snD] at hi⟩
theorem snM_byt : byt snM := fun i => by
  rcases Nat.lt_or_ge i snM.length with h | h
  · have := mtFull_byte (g := 1) (r := 0) (by decide) (by decide) _ (List.getElem_mem (l := snM) h)
    simpa [List.getElem?_eq_getElem h] using this
  · simp [List.getElem?_eq_none h]
set_option maxHeartbeats 16000000 in
set_option maxRecDepth 100000 in
theorem implStoreNew_any (n : Int) (w : World) (he : Err w 0) (he2 : Err w 1) (he3 : Err w 3) :
    Calls Tryz.prog 7 #[.int .i64 n] w fun e w' => SnPost n w e w' := by
  have B0 : Hid (Below w.heap.size w (w.alloc (.cells #[.slice none 0 0, .slice none 0 0, .int .i64 0, .slice none 0 0, .slice none 0 0] 31))) := below_new (Below.refl _ _)
  have K0 := hid (Bk.new w 31 [.slice none 0 0, .slice none 0 0, .int .i64 0, .slice none 0 0, .slice none 0 0])
  have HE := hid he
  have HE2 := hid he2
  have HE3 := hid he3
  clear he he2 he3
  by_cases hn : 2 ≤ n ∧ n ≤ 400
  · have HN := hid hn
    have HD : Hid (∀ v : World, Calls Tryz.prog 36 #[.int .i64 n] v fun e w' => ∃ sa sn sc da dn dc V U, e = .returned (.tuple #[.agg #[.slice sa sn sc, .slice da dn dc], .bool true]) ∧ DO w' v.heap.size (.slice sa sn sc) V (.slice da dn dc) U (sn0 n) ∧ Below v.heap.size v w') := fun v => by
      have h := implDiskNew_any n v
      rw [dn_some hn] at h
      exact h
    clear hn
    go_enter Tryz.func7, Tryz.ntmps7
    go_wp2_with fail
    refine (HD.out _).mono ?_
    rintro e w1 ⟨sa, sn, sc, da, dn, dc, Vn, Un, rfl, hO, hb⟩
    have hbn := below_new (o := .cells #[.slice sa sn sc, .slice da dn dc] 25) (w := w1) (Below.refl _ _)
    have hb1 := hb.trans (hbn.mono hb.size)
    have B1 := hid (B0.out.trans (hb1.mono B0.out.size))
    have K1 := hid (K0.out.below hb1)
    have K1D := hid (Bk.new w1 25 [.slice sa sn sc, .slice da dn dc])
    have D1 := hid (hO.below hbn)
    have HS0 : Hid (w.heap.size < (w.alloc (.cells #[.slice none 0 0, .slice none 0 0, .int .i64 0, .slice none 0 0, .slice none 0 0] 31)).heap.size) := K0.out.lt
    have HBD : Hid (w.heap.size < w1.heap.size) := Nat.lt_of_lt_of_le K0.out.lt hb.size
    clear hb hO hbn hb1 HD B0 K0
    have c0 := K1D.out.cell (j := 0) rfl
    have c1 := K1D.out.cell (j := 1) rfl
    have HLEN : Hid (sn ≤ 1048576 ∧ dn ≤ 1048576) := by
      have h1 := (D1.out.dk (S := fun _ => True) (fun _ _ => trivial)).hs.len.1
      have h2 := (D1.out.dk (S := fun _ => True) (fun _ _ => trivial)).hd.len.1
      have h3 := HN.out
      show _ ∧ _
      rw [h1, h2]
      simp [sn0]
      omega
    go_wp2_with fail
    generalize hU : w1.alloc (.cells #[.slice sa sn sc, .slice da dn dc] 25) = U at *
    clear hU
    generalize w1.heap.size = bd at *
    have T1 := hid (kl2_0 c0 c1)
    have HLP := hid (fun (v : World) (hv : Below U.heap.size U v) => lastPage_any 1 0 v (by decide) snM (by rw [mtBytes, if_pos (by decide)]; rfl) snM_byt (HE.out.below (B1.out.trans (hv.mono B1.out.size)) HE.out.lt) (HE2.out.below (B1.out.trans (hv.mono B1.out.size)) HE2.out.lt))
    have HDO : Hid (∀ (v : World) (E : Nat → Prop) {b : Nat}, Below U.heap.size U v → Opr v E (.slice (some ⟨b, 0, none⟩) 2 2) snO → Calls Tryz.prog 38 #[.agg #[.slice sa sn sc, .slice da dn dc], .slice (some ⟨b, 0, none⟩) 2 2] v fun e w' => DkPost1 (snD n) v e w') := fun v E b hv hl => by
      have h := implDoOps_any (fun _ => True) E sa sn sc da dn dc (sn0 n) (some ⟨b, 0, none⟩) 2 2 snO v ((D1.out.below hv).dk (fun _ _ => trivial)) (sn0_small n) HLEN.out.1 HLEN.out.2 hl
      rw [sn_ops HN.out] at h
      exact h
    have HSO : Hid (∀ (v : World) ea en ec fa fn fc Ve Ue B, Below U.heap.size U v → DO v B (.slice ea en ec) Ve (.slice fa fn fc) Ue (snD n) → Calls Tryz.prog 37 #[.agg #[.slice ea en ec, .slice fa fn fc]] v fun e w' => ∃ xa xn xc ya yn yc na nn nc pa pn pc Vd U9 V, e = .returned (.tuple #[.agg #[.slice xa xn xc, .slice ya yn yc, .int .i64 1, .slice na nn nc, .slice pa pn pc], .int .i64 0]) ∧ StO w' v.heap.size xa xn xc ya yn yc na nn nc pa pn pc Vd U9 V (snD n) ([], []) ∧ Below v.heap.size v w') := fun v ea en ec fa fn fc Ve Ue B hv hO => by
      refine (implStoreOpen0_any (fun _ => True) ea en ec fa fn fc (snD n) v (hO.dk (fun _ _ => trivial)) (snD_small HN.out) (snD_ok HN.out) (by have h1 := (hO.dk (S := fun _ => True) (fun _ _ => trivial)).hd.len.1; rw [h1]; simp [snD]) (by rw [sn_best HN.out]; decide) (by rw [sn_best HN.out]) (HE.out.below (B1.out.trans (hv.mono B1.out.size)) HE.out.lt) (HE2.out.below (B1.out.trans (hv.mono B1.out.size)) HE2.out.lt) (HE3.out.below (B1.out.trans (hv.mono B1.out.size)) HE3.out.lt)).mono ?_
      rintro e w' ⟨hb, xa, xn, xc, ya, yn, yc, Vd, U9, na, nn, nc, pa, pn, pc, V, rfl, h1, h2, h3⟩
      have hg := sn_gen HN.out
      rw [hg.2.1] at h1
      rw [hg.2.2] at h2 h3
      refine ⟨xa, xn, xc, ya, yn, yc, na, nn, nc, pa, pn, pc, Vd, U9, V, ?_, ⟨h1, h2, h3⟩, hb⟩
      rw [hg.1, sn_code HN.out]
    have HSU : Hid (w.heap.size ≤ U.heap.size) := B1.out.size
    have HWU : Hid (w.heap.size < U.heap.size) := K1.out.lt
    clear HE HE2 HE3 D1
    go_cut [6, 7] (fun x y v => ∃ V8 gb xa xn xc ya yn yc na nn nc pa pn pc Vd U9 V, V8 = v ∧ x = .pointer (some ⟨gb, 0, none⟩) ∧ y = .int .i64 0 ∧ SnB n w V8 w.heap.size gb U.heap.size xa xn xc ya yn yc na nn nc pa pn pc Vd U9 V)
    case first =>
      refine wp_region_noPanic ?_
      refine wp_region_held_drew (S := fun v => v.cell? ⟨bd, 0, none⟩ = some (.slice sa sn sc) ∧ v.cell? ⟨bd, 1, none⟩ = some (.slice da dn dc) ∧ KL U v [(⟨bd, 0, none⟩, .slice sa sn sc), (⟨bd, 1, none⟩, .slice da dn dc)]) (by kernel_rfl) (kl2 (T1.out.call (below_drew _))) (fun hHeld => ?_)
      simp only [List.size_toArray, List.length_cons, List.length_nil, Array.replicate_succ, Array.replicate_zero, Nat.reduceAdd, List.push_toArray, List.nil_append, List.cons_append]
      refine wpAnyH_take (i := 0) (v := (.agg #[.slice sa sn sc, .slice da dn dc])) rfl (by kernel_rfl) (by kernel_rfl) (by kernel_rfl) (fun _ _ _ h => h) (Or.inl ⟨by rfl, ?_⟩) (by assumption) ?_
      · intro w hSw
        (try dsimp only at hSw)
        go_simp
      try simp only [List.getElem_toArray]
      try simp only [List.getElem_cons_succ]
      try simp only [List.getElem_cons_zero]
      try simp only [Act.put]
      try simp only [List.setIfInBounds_toArray]
      try simp only [List.set_cons_succ]
      try simp only [List.set_cons_zero]
      refine wpAnyH_take (i := 1) (v := (.agg #[.int .i64 1, .int .i64 0])) rfl (by kernel_rfl) (by kernel_rfl) (by kernel_rfl) (fun _ _ _ h => h) (Or.inl ⟨by rfl, ?_⟩) (by assumption) ?_
      · intro w hSw
        (try dsimp only at hSw)
        go_simp
      try simp only [List.getElem_toArray]
      try simp only [List.getElem_cons_succ]
      try simp only [List.getElem_cons_zero]
      try simp only [Act.put]
      try simp only [List.setIfInBounds_toArray]
      try simp only [List.set_cons_succ]
      try simp only [List.set_cons_zero]
      refine wpAnyH_ready (rs := [2, 8]) (by kernel_rfl) (by simp) ?_
      refine AllReadyH.cons rfl (fun K1 hK => ?_) (AllReadyH.cons rfl (fun K1 hK => ?_) AllReadyH.nil)
      · go_simp
        have hz := kl2_bel (by assumption)
        refine (HLP.out _ hz).mono ?_
        rintro r q1 ⟨b1, rfl, hb1, hbC, hO1⟩
        have O1 := hid hO1
        clear hO1
        clear hz
        go_wp2_with fail
        refine hK.out _ _ ?_ (fun hHeld => ?_)
        · exact kl2c hbC (by assumption)
        clear hK K1
        try simp only [List.getElem_toArray]
        try simp only [List.getElem_cons_succ]
        try simp only [List.getElem_cons_zero]
        try simp only [Act.put]
        try simp only [List.setIfInBounds_toArray]
        try simp only [List.set_cons_succ]
        try simp only [List.set_cons_zero]
        clear hbC
        refine wpAnyH_ready (rs := [3, 8]) (by kernel_rfl) (by simp) ?_
        refine AllReadyH.cons rfl (fun K1 hK => ?_) (AllReadyH.cons rfl (fun K1 hK => ?_) AllReadyH.nil)
        · go_simp
          have hz := kl2_bel (by assumption)
          refine (HDO.out _ _ hz O1.out).mono ?_
          rintro r q2 ⟨ea, en, ec, fa, fn, fc, Ve, Ue, rfl, hO2, hbC⟩
          have O2 := hid hO2
          clear hO2 O1
          clear hz
          go_wp2_with fail
          refine hK.out _ _ ?_ (fun hHeld => ?_)
          · exact kl2c hbC (by assumption)
          clear hK K1
          try simp only [List.getElem_toArray]
          try simp only [List.getElem_cons_succ]
          try simp only [List.getElem_cons_zero]
          try simp only [Act.put]
          try simp only [List.setIfInBounds_toArray]
          try simp only [List.set_cons_succ]
          try simp only [List.set_cons_zero]
          clear hbC
          refine wpAnyH_ready (rs := [4, 8]) (by kernel_rfl) (by simp) ?_
          refine AllReadyH.cons rfl (fun K1 hK => ?_) (AllReadyH.cons rfl (fun K1 hK => ?_) AllReadyH.nil)
          · go_simp
            have hz := kl2_bel (by assumption)
            refine (HSO.out _ _ _ _ _ _ _ _ _ _ hz O2.out).mono ?_
            rintro r q3 ⟨xa, xn, xc, ya, yn, yc, na, nn, nc, pa, pn, pc, Vd, U9, V, rfl, hO3, hbC⟩
            have O3 := hid (sto_base hO3 (Nat.le_refl _))
            have HQ3 := hid hz.size
            clear hO3 O2
            clear hz
            go_wp2_with fail
            refine hK.out _ _ ?_ (fun hHeld => ?_)
            · exact kl2c hbC (by assumption)
            clear hK K1
            try simp only [List.getElem_toArray]
            try simp only [List.getElem_cons_succ]
            try simp only [List.getElem_cons_zero]
            try simp only [Act.put]
            try simp only [List.setIfInBounds_toArray]
            try simp only [List.set_cons_succ]
            try simp only [List.set_cons_zero]
            clear hbC
            refine wpAnyH_take (i := 5) (v := (.tuple #[.agg #[.slice xa xn xc, .slice ya yn yc, .int .i64 1, .slice na nn nc, .slice pa pn pc], .int .i64 0])) rfl (by kernel_rfl) (by kernel_rfl) (by kernel_rfl) (fun _ _ _ h => h) (Or.inl ⟨by rfl, ?_⟩) (by assumption) ?_
            · intro w hSw
              (try dsimp only at hSw)
              go_simp
            try simp only [List.getElem_toArray]
            try simp only [List.getElem_cons_succ]
            try simp only [List.getElem_cons_zero]
            try simp only [Act.put]
            try simp only [List.setIfInBounds_toArray]
            try simp only [List.set_cons_succ]
            try simp only [List.set_cons_zero]
            refine wpAnyH_take (i := 6) (v := (.agg #[.slice xa xn xc, .slice ya yn yc, .int .i64 1, .slice na nn nc, .slice pa pn pc])) rfl (by kernel_rfl) (by kernel_rfl) (by kernel_rfl) (fun _ _ _ h => h) (Or.inl ⟨by rfl, ?_⟩) (by assumption) ?_
            · intro w hSw
              (try dsimp only at hSw)
              go_simp
            try simp only [List.getElem_toArray]
            try simp only [List.getElem_cons_succ]
            try simp only [List.getElem_cons_zero]
            try simp only [Act.put]
            try simp only [List.setIfInBounds_toArray]
            try simp only [List.set_cons_succ]
            try simp only [List.set_cons_zero]
            refine wpAnyH_take (i := 7) (v := (.int .i64 0)) rfl (by kernel_rfl) (by kernel_rfl) (by kernel_rfl) (fun _ _ _ h => h) (Or.inl ⟨by rfl, ?_⟩) (by assumption) ?_
            · intro w hSw
              (try dsimp only at hSw)
              go_simp
            try simp only [List.getElem_toArray]
            try simp only [List.getElem_cons_succ]
            try simp only [List.getElem_cons_zero]
            try simp only [Act.put]
            try simp only [List.setIfInBounds_toArray]
            try simp only [List.set_cons_succ]
            try simp only [List.set_cons_zero]
            refine wpAnyH_ready (rs := [8]) (by kernel_rfl) (by simp) ?_
            refine AllReadyH.cons rfl (fun K1 hK => ?_) AllReadyH.nil
            go_simp
            try go_wp2_with fail
            have hz := kl2_bel (by assumption)
            have hbC := below_new (o := .cells #[.slice none 0 0, .slice none 0 0, .int .i64 0, .slice none 0 0, .slice none 0 0] 31) (w := q3) (Below.refl _ _)
            have E3 := hid (Bk.new q3 31 [.slice none 0 0, .slice none 0 0, .int .i64 0, .slice none 0 0, .slice none 0 0])
            have G9 : Hid (U.heap.size ≤ q3.heap.size) := hz.size
            have F9 : Hid (∀ y, stb xa xn xc ya yn yc na nn nc pa pn pc Vd U9 V ([], []) y → y ≠ q3.heap.size) := fun y hy => by have h1 := (sto_lt O3.out hy).2; omega
            have OX := hid (O3.out.below hbC)
            clear O3
            clear hz
            refine hK.out _ _ ?_ (fun hHeld => ?_)
            · exact kl2c hbC (by assumption)
            clear hK K1
            try simp only [List.getElem_toArray]
            try simp only [List.getElem_cons_succ]
            try simp only [List.getElem_cons_zero]
            try simp only [Act.put]
            try simp only [List.setIfInBounds_toArray]
            try simp only [List.set_cons_succ]
            try simp only [List.set_cons_zero]
            clear hbC
            generalize q3.alloc (.cells #[.slice none 0 0, .slice none 0 0, .int .i64 0, .slice none 0 0, .slice none 0 0] 31) = v8 at *
            generalize q3.heap.size = gb at *
            have O3 := OX
            clear OX
            have hz := kl2_bel (by assumption)
            have z0 := E3.out.cell (j := 0) rfl
            have z1 := E3.out.cell (j := 1) rfl
            have z2 := E3.out.cell (j := 2) rfl
            have z3 := E3.out.cell (j := 3) rfl
            have z4 := E3.out.cell (j := 4) rfl
            have e0 := E3.out.free 0
            have e1 := E3.out.free 1
            have e2 := E3.out.free 2
            have e3 := E3.out.free 3
            have e4 := E3.out.free 4
            have ho : Only (fun y => y = gb) v8 (((((v8.setCell ⟨gb, 0, none⟩ (.slice xa xn xc)).setCell ⟨gb, 1, none⟩ (.slice ya yn yc)).setCell ⟨gb, 2, none⟩ (.int .i64 1)).setCell ⟨gb, 3, none⟩ (.slice na nn nc)).setCell ⟨gb, 4, none⟩ (.slice pa pn pc)) := (((((only_set (R := fun y => y = gb) (p := ⟨gb, 0, none⟩) rfl _).trans (only_set (R := fun y => y = gb) (p := ⟨gb, 1, none⟩) rfl _)).trans (only_set (R := fun y => y = gb) (p := ⟨gb, 2, none⟩) rfl _)).trans (only_set (R := fun y => y = gb) (p := ⟨gb, 3, none⟩) rfl _)).trans (only_set (R := fun y => y = gb) (p := ⟨gb, 4, none⟩) rfl _))
            have hU : Below U.heap.size U (((((v8.setCell ⟨gb, 0, none⟩ (.slice xa xn xc)).setCell ⟨gb, 1, none⟩ (.slice ya yn yc)).setCell ⟨gb, 2, none⟩ (.int .i64 1)).setCell ⟨gb, 3, none⟩ (.slice na nn nc)).setCell ⟨gb, 4, none⟩ (.slice pa pn pc)) := hz.trans (ho.below hz.size (fun y hy e => by have := G9.out; omega))
            have AF : Hid (SnB n w (((((v8.setCell ⟨gb, 0, none⟩ (.slice xa xn xc)).setCell ⟨gb, 1, none⟩ (.slice ya yn yc)).setCell ⟨gb, 2, none⟩ (.int .i64 1)).setCell ⟨gb, 3, none⟩ (.slice na nn nc)).setCell ⟨gb, 4, none⟩ (.slice pa pn pc)) w.heap.size gb U.heap.size xa xn xc ya yn yc na nn nc pa pn pc Vd U9 V) := ⟨B1.out.trans (hU.mono B1.out.size), K1.out.below hU, (((((E3.out.set 0 (.slice xa xn xc)).set 1 (.slice ya yn yc)).set 2 (.int .i64 1)).set 3 (.slice na nn nc)).set 4 (.slice pa pn pc)), sto_to (sto_base O3.out HQ3.out) ho (fun y hy e => F9.out y hy e), F9.out⟩
            have s10 := kl2 (T1.out.call hU)
            clear hU ho hz
            refine wpAnyH_ready (rs := [9]) (by kernel_rfl) (by simp) ?_
            refine AllReadyH.cons rfl (fun K1 hK => ?_) AllReadyH.nil
            go_simp
            try go_wp2_with fail
            refine hK.out _ _ ?_ (fun hHeld => ?_)
            · exact s10
            clear hK K1
            try simp only [List.getElem_toArray]
            try simp only [List.getElem_cons_succ]
            try simp only [List.getElem_cons_zero]
            try simp only [Act.put]
            try simp only [List.setIfInBounds_toArray]
            try simp only [List.set_cons_succ]
            try simp only [List.set_cons_zero]
            clear s10 z0 e0 z1 e1 z2 e2 z3 e3 z4 e4
            refine wpAnyH_take (i := 10) (v := (.int .i64 0)) rfl (by kernel_rfl) (by kernel_rfl) (by kernel_rfl) (fun _ _ _ h => h) (Or.inl ⟨by rfl, ?_⟩) (by assumption) ?_
            · intro w hSw
              (try dsimp only at hSw)
              go_simp
            try simp only [List.getElem_toArray]
            try simp only [List.getElem_cons_succ]
            try simp only [List.getElem_cons_zero]
            try simp only [Act.put]
            try simp only [List.setIfInBounds_toArray]
            try simp only [List.set_cons_succ]
            try simp only [List.set_cons_zero]
            refine wpAnyH_done (by kernel_rfl) ?_ _
            refine NoPanic.normal ?_
            go_wp2_with fail
            go_meet
            exact ⟨_, gb, xa, xn, xc, ya, yn, yc, na, nn, nc, pa, pn, pc, Vd, U9, V, rfl, by simp, by simp, AF.out⟩
          · go_simp
            try go_wp2_with fail
            have hz := kl2_bel (by assumption)
            have hbC := below_new (o := .cells #[.slice none 0 0, .slice none 0 0, .int .i64 0, .slice none 0 0, .slice none 0 0] 31) (w := q2) (Below.refl _ _)
            have E2 := hid (Bk.new q2 31 [.slice none 0 0, .slice none 0 0, .int .i64 0, .slice none 0 0, .slice none 0 0])
            have G9 : Hid (U.heap.size ≤ q2.heap.size) := hz.size
            have OX := hid (O2.out.below hbC)
            clear O2
            clear hz
            refine hK.out _ _ ?_ (fun hHeld => ?_)
            · exact kl2c hbC (by assumption)
            clear hK K1
            try simp only [List.getElem_toArray]
            try simp only [List.getElem_cons_succ]
            try simp only [List.getElem_cons_zero]
            try simp only [Act.put]
            try simp only [List.setIfInBounds_toArray]
            try simp only [List.set_cons_succ]
            try simp only [List.set_cons_zero]
            clear hbC
            generalize q2.alloc (.cells #[.slice none 0 0, .slice none 0 0, .int .i64 0, .slice none 0 0, .slice none 0 0] 31) = v8 at *
            generalize q2.heap.size = gb at *
            have O2 := OX
            clear OX
            refine wpAnyH_ready (rs := [4]) (by kernel_rfl) (by simp) ?_
            refine AllReadyH.cons rfl (fun K1 hK => ?_) AllReadyH.nil
            go_simp
            have hz := kl2_bel (by assumption)
            refine (HSO.out _ _ _ _ _ _ _ _ _ _ hz O2.out).mono ?_
            rintro r q3 ⟨xa, xn, xc, ya, yn, yc, na, nn, nc, pa, pn, pc, Vd, U9, V, rfl, hO3, hbC⟩
            have O3 := hid (sto_base hO3 (Nat.le_refl _))
            have HQ3 := hid hz.size
            have E3 := hid (E2.out.below hbC)
            have F9 : Hid (∀ y, stb xa xn xc ya yn yc na nn nc pa pn pc Vd U9 V ([], []) y → y ≠ gb) := fun y hy => by have h1 := (sto_lt hO3 hy).1; have h2 := E2.out.lt; omega
            clear E2
            clear hO3 O2
            clear hz
            go_wp2_with fail
            refine hK.out _ _ ?_ (fun hHeld => ?_)
            · exact kl2c hbC (by assumption)
            clear hK K1
            try simp only [List.getElem_toArray]
            try simp only [List.getElem_cons_succ]
            try simp only [List.getElem_cons_zero]
            try simp only [Act.put]
            try simp only [List.setIfInBounds_toArray]
            try simp only [List.set_cons_succ]
            try simp only [List.set_cons_zero]
            clear hbC
            refine wpAnyH_take (i := 5) (v := (.tuple #[.agg #[.slice xa xn xc, .slice ya yn yc, .int .i64 1, .slice na nn nc, .slice pa pn pc], .int .i64 0])) rfl (by kernel_rfl) (by kernel_rfl) (by kernel_rfl) (fun _ _ _ h => h) (Or.inl ⟨by rfl, ?_⟩) (by assumption) ?_
            · intro w hSw
              (try dsimp only at hSw)
              go_simp
            try simp only [List.getElem_toArray]
            try simp only [List.getElem_cons_succ]
            try simp only [List.getElem_cons_zero]
            try simp only [Act.put]
            try simp only [List.setIfInBounds_toArray]
            try simp only [List.set_cons_succ]
            try simp only [List.set_cons_zero]
            refine wpAnyH_take (i := 6) (v := (.agg #[.slice xa xn xc, .slice ya yn yc, .int .i64 1, .slice na nn nc, .slice pa pn pc])) rfl (by kernel_rfl) (by kernel_rfl) (by kernel_rfl) (fun _ _ _ h => h) (Or.inl ⟨by rfl, ?_⟩) (by assumption) ?_
            · intro w hSw
              (try dsimp only at hSw)
              go_simp
            try simp only [List.getElem_toArray]
            try simp only [List.getElem_cons_succ]
            try simp only [List.getElem_cons_zero]
            try simp only [Act.put]
            try simp only [List.setIfInBounds_toArray]
            try simp only [List.set_cons_succ]
            try simp only [List.set_cons_zero]
            refine wpAnyH_take (i := 7) (v := (.int .i64 0)) rfl (by kernel_rfl) (by kernel_rfl) (by kernel_rfl) (fun _ _ _ h => h) (Or.inl ⟨by rfl, ?_⟩) (by assumption) ?_
            · intro w hSw
              (try dsimp only at hSw)
              go_simp
            try simp only [List.getElem_toArray]
            try simp only [List.getElem_cons_succ]
            try simp only [List.getElem_cons_zero]
            try simp only [Act.put]
            try simp only [List.setIfInBounds_toArray]
            try simp only [List.set_cons_succ]
            try simp only [List.set_cons_zero]
            have hz := kl2_bel (by assumption)
            have z0 := E3.out.cell (j := 0) rfl
            have z1 := E3.out.cell (j := 1) rfl
            have z2 := E3.out.cell (j := 2) rfl
            have z3 := E3.out.cell (j := 3) rfl
            have z4 := E3.out.cell (j := 4) rfl
            have e0 := E3.out.free 0
            have e1 := E3.out.free 1
            have e2 := E3.out.free 2
            have e3 := E3.out.free 3
            have e4 := E3.out.free 4
            have ho : Only (fun y => y = gb) q3 (((((q3.setCell ⟨gb, 0, none⟩ (.slice xa xn xc)).setCell ⟨gb, 1, none⟩ (.slice ya yn yc)).setCell ⟨gb, 2, none⟩ (.int .i64 1)).setCell ⟨gb, 3, none⟩ (.slice na nn nc)).setCell ⟨gb, 4, none⟩ (.slice pa pn pc)) := (((((only_set (R := fun y => y = gb) (p := ⟨gb, 0, none⟩) rfl _).trans (only_set (R := fun y => y = gb) (p := ⟨gb, 1, none⟩) rfl _)).trans (only_set (R := fun y => y = gb) (p := ⟨gb, 2, none⟩) rfl _)).trans (only_set (R := fun y => y = gb) (p := ⟨gb, 3, none⟩) rfl _)).trans (only_set (R := fun y => y = gb) (p := ⟨gb, 4, none⟩) rfl _))
            have hU : Below U.heap.size U (((((q3.setCell ⟨gb, 0, none⟩ (.slice xa xn xc)).setCell ⟨gb, 1, none⟩ (.slice ya yn yc)).setCell ⟨gb, 2, none⟩ (.int .i64 1)).setCell ⟨gb, 3, none⟩ (.slice na nn nc)).setCell ⟨gb, 4, none⟩ (.slice pa pn pc)) := hz.trans (ho.below hz.size (fun y hy e => by have := G9.out; omega))
            have AF : Hid (SnB n w (((((q3.setCell ⟨gb, 0, none⟩ (.slice xa xn xc)).setCell ⟨gb, 1, none⟩ (.slice ya yn yc)).setCell ⟨gb, 2, none⟩ (.int .i64 1)).setCell ⟨gb, 3, none⟩ (.slice na nn nc)).setCell ⟨gb, 4, none⟩ (.slice pa pn pc)) w.heap.size gb U.heap.size xa xn xc ya yn yc na nn nc pa pn pc Vd U9 V) := ⟨B1.out.trans (hU.mono B1.out.size), K1.out.below hU, (((((E3.out.set 0 (.slice xa xn xc)).set 1 (.slice ya yn yc)).set 2 (.int .i64 1)).set 3 (.slice na nn nc)).set 4 (.slice pa pn pc)), sto_to (sto_base O3.out HQ3.out) ho (fun y hy e => F9.out y hy e), F9.out⟩
            have s10 := kl2 (T1.out.call hU)
            clear hU ho hz
            refine wpAnyH_ready (rs := [9]) (by kernel_rfl) (by simp) ?_
            refine AllReadyH.cons rfl (fun K1 hK => ?_) AllReadyH.nil
            go_simp
            try go_wp2_with fail
            refine hK.out _ _ ?_ (fun hHeld => ?_)
            · exact s10
            clear hK K1
            try simp only [List.getElem_toArray]
            try simp only [List.getElem_cons_succ]
            try simp only [List.getElem_cons_zero]
            try simp only [Act.put]
            try simp only [List.setIfInBounds_toArray]
            try simp only [List.set_cons_succ]
            try simp only [List.set_cons_zero]
            clear s10 z0 e0 z1 e1 z2 e2 z3 e3 z4 e4
            refine wpAnyH_take (i := 10) (v := (.int .i64 0)) rfl (by kernel_rfl) (by kernel_rfl) (by kernel_rfl) (fun _ _ _ h => h) (Or.inl ⟨by rfl, ?_⟩) (by assumption) ?_
            · intro w hSw
              (try dsimp only at hSw)
              go_simp
            try simp only [List.getElem_toArray]
            try simp only [List.getElem_cons_succ]
            try simp only [List.getElem_cons_zero]
            try simp only [Act.put]
            try simp only [List.setIfInBounds_toArray]
            try simp only [List.set_cons_succ]
            try simp only [List.set_cons_zero]
            refine wpAnyH_done (by kernel_rfl) ?_ _
            refine NoPanic.normal ?_
            go_wp2_with fail
            go_meet
            exact ⟨_, gb, xa, xn, xc, ya, yn, yc, na, nn, nc, pa, pn, pc, Vd, U9, V, rfl, by simp, by simp, AF.out⟩
        · go_simp
          try go_wp2_with fail
          have hz := kl2_bel (by assumption)
          have hbC := below_new (o := .cells #[.slice none 0 0, .slice none 0 0, .int .i64 0, .slice none 0 0, .slice none 0 0] 31) (w := q1) (Below.refl _ _)
          have E1 := hid (Bk.new q1 31 [.slice none 0 0, .slice none 0 0, .int .i64 0, .slice none 0 0, .slice none 0 0])
          have G9 : Hid (U.heap.size ≤ q1.heap.size) := hz.size
          have OX := hid (O1.out.below hbC)
          clear O1
          clear hz
          refine hK.out _ _ ?_ (fun hHeld => ?_)
          · exact kl2c hbC (by assumption)
          clear hK K1
          try simp only [List.getElem_toArray]
          try simp only [List.getElem_cons_succ]
          try simp only [List.getElem_cons_zero]
          try simp only [Act.put]
          try simp only [List.setIfInBounds_toArray]
          try simp only [List.set_cons_succ]
          try simp only [List.set_cons_zero]
          clear hbC
          generalize q1.alloc (.cells #[.slice none 0 0, .slice none 0 0, .int .i64 0, .slice none 0 0, .slice none 0 0] 31) = v8 at *
          generalize q1.heap.size = gb at *
          have O1 := OX
          clear OX
          refine wpAnyH_ready (rs := [3]) (by kernel_rfl) (by simp) ?_
          refine AllReadyH.cons rfl (fun K1 hK => ?_) AllReadyH.nil
          go_simp
          have hz := kl2_bel (by assumption)
          refine (HDO.out _ _ hz O1.out).mono ?_
          rintro r q2 ⟨ea, en, ec, fa, fn, fc, Ve, Ue, rfl, hO2, hbC⟩
          have O2 := hid hO2
          clear hO2 O1
          have E2 := hid (E1.out.below hbC)
          clear E1
          clear hz
          go_wp2_with fail
          refine hK.out _ _ ?_ (fun hHeld => ?_)
          · exact kl2c hbC (by assumption)
          clear hK K1
          try simp only [List.getElem_toArray]
          try simp only [List.getElem_cons_succ]
          try simp only [List.getElem_cons_zero]
          try simp only [Act.put]
          try simp only [List.setIfInBounds_toArray]
          try simp only [List.set_cons_succ]
          try simp only [List.set_cons_zero]
          clear hbC
          refine wpAnyH_ready (rs := [4]) (by kernel_rfl) (by simp) ?_
          refine AllReadyH.cons rfl (fun K1 hK => ?_) AllReadyH.nil
          go_simp
          have hz := kl2_bel (by assumption)
          refine (HSO.out _ _ _ _ _ _ _ _ _ _ hz O2.out).mono ?_
          rintro r q3 ⟨xa, xn, xc, ya, yn, yc, na, nn, nc, pa, pn, pc, Vd, U9, V, rfl, hO3, hbC⟩
          have O3 := hid (sto_base hO3 (Nat.le_refl _))
          have HQ3 := hid hz.size
          have E3 := hid (E2.out.below hbC)
          have F9 : Hid (∀ y, stb xa xn xc ya yn yc na nn nc pa pn pc Vd U9 V ([], []) y → y ≠ gb) := fun y hy => by have h1 := (sto_lt hO3 hy).1; have h2 := E2.out.lt; omega
          clear E2
          clear hO3 O2
          clear hz
          go_wp2_with fail
          refine hK.out _ _ ?_ (fun hHeld => ?_)
          · exact kl2c hbC (by assumption)
          clear hK K1
          try simp only [List.getElem_toArray]
          try simp only [List.getElem_cons_succ]
          try simp only [List.getElem_cons_zero]
          try simp only [Act.put]
          try simp only [List.setIfInBounds_toArray]
          try simp only [List.set_cons_succ]
          try simp only [List.set_cons_zero]
          clear hbC
          refine wpAnyH_take (i := 5) (v := (.tuple #[.agg #[.slice xa xn xc, .slice ya yn yc, .int .i64 1, .slice na nn nc, .slice pa pn pc], .int .i64 0])) rfl (by kernel_rfl) (by kernel_rfl) (by kernel_rfl) (fun _ _ _ h => h) (Or.inl ⟨by rfl, ?_⟩) (by assumption) ?_
          · intro w hSw
            (try dsimp only at hSw)
            go_simp
          try simp only [List.getElem_toArray]
          try simp only [List.getElem_cons_succ]
          try simp only [List.getElem_cons_zero]
          try simp only [Act.put]
          try simp only [List.setIfInBounds_toArray]
          try simp only [List.set_cons_succ]
          try simp only [List.set_cons_zero]
          refine wpAnyH_take (i := 6) (v := (.agg #[.slice xa xn xc, .slice ya yn yc, .int .i64 1, .slice na nn nc, .slice pa pn pc])) rfl (by kernel_rfl) (by kernel_rfl) (by kernel_rfl) (fun _ _ _ h => h) (Or.inl ⟨by rfl, ?_⟩) (by assumption) ?_
          · intro w hSw
            (try dsimp only at hSw)
            go_simp
          try simp only [List.getElem_toArray]
          try simp only [List.getElem_cons_succ]
          try simp only [List.getElem_cons_zero]
          try simp only [Act.put]
          try simp only [List.setIfInBounds_toArray]
          try simp only [List.set_cons_succ]
          try simp only [List.set_cons_zero]
          refine wpAnyH_take (i := 7) (v := (.int .i64 0)) rfl (by kernel_rfl) (by kernel_rfl) (by kernel_rfl) (fun _ _ _ h => h) (Or.inl ⟨by rfl, ?_⟩) (by assumption) ?_
          · intro w hSw
            (try dsimp only at hSw)
            go_simp
          try simp only [List.getElem_toArray]
          try simp only [List.getElem_cons_succ]
          try simp only [List.getElem_cons_zero]
          try simp only [Act.put]
          try simp only [List.setIfInBounds_toArray]
          try simp only [List.set_cons_succ]
          try simp only [List.set_cons_zero]
          have hz := kl2_bel (by assumption)
          have z0 := E3.out.cell (j := 0) rfl
          have z1 := E3.out.cell (j := 1) rfl
          have z2 := E3.out.cell (j := 2) rfl
          have z3 := E3.out.cell (j := 3) rfl
          have z4 := E3.out.cell (j := 4) rfl
          have e0 := E3.out.free 0
          have e1 := E3.out.free 1
          have e2 := E3.out.free 2
          have e3 := E3.out.free 3
          have e4 := E3.out.free 4
          have ho : Only (fun y => y = gb) q3 (((((q3.setCell ⟨gb, 0, none⟩ (.slice xa xn xc)).setCell ⟨gb, 1, none⟩ (.slice ya yn yc)).setCell ⟨gb, 2, none⟩ (.int .i64 1)).setCell ⟨gb, 3, none⟩ (.slice na nn nc)).setCell ⟨gb, 4, none⟩ (.slice pa pn pc)) := (((((only_set (R := fun y => y = gb) (p := ⟨gb, 0, none⟩) rfl _).trans (only_set (R := fun y => y = gb) (p := ⟨gb, 1, none⟩) rfl _)).trans (only_set (R := fun y => y = gb) (p := ⟨gb, 2, none⟩) rfl _)).trans (only_set (R := fun y => y = gb) (p := ⟨gb, 3, none⟩) rfl _)).trans (only_set (R := fun y => y = gb) (p := ⟨gb, 4, none⟩) rfl _))
          have hU : Below U.heap.size U (((((q3.setCell ⟨gb, 0, none⟩ (.slice xa xn xc)).setCell ⟨gb, 1, none⟩ (.slice ya yn yc)).setCell ⟨gb, 2, none⟩ (.int .i64 1)).setCell ⟨gb, 3, none⟩ (.slice na nn nc)).setCell ⟨gb, 4, none⟩ (.slice pa pn pc)) := hz.trans (ho.below hz.size (fun y hy e => by have := G9.out; omega))
          have AF : Hid (SnB n w (((((q3.setCell ⟨gb, 0, none⟩ (.slice xa xn xc)).setCell ⟨gb, 1, none⟩ (.slice ya yn yc)).setCell ⟨gb, 2, none⟩ (.int .i64 1)).setCell ⟨gb, 3, none⟩ (.slice na nn nc)).setCell ⟨gb, 4, none⟩ (.slice pa pn pc)) w.heap.size gb U.heap.size xa xn xc ya yn yc na nn nc pa pn pc Vd U9 V) := ⟨B1.out.trans (hU.mono B1.out.size), K1.out.below hU, (((((E3.out.set 0 (.slice xa xn xc)).set 1 (.slice ya yn yc)).set 2 (.int .i64 1)).set 3 (.slice na nn nc)).set 4 (.slice pa pn pc)), sto_to (sto_base O3.out HQ3.out) ho (fun y hy e => F9.out y hy e), F9.out⟩
          have s10 := kl2 (T1.out.call hU)
          clear hU ho hz
          refine wpAnyH_ready (rs := [9]) (by kernel_rfl) (by simp) ?_
          refine AllReadyH.cons rfl (fun K1 hK => ?_) AllReadyH.nil
          go_simp
          try go_wp2_with fail
          refine hK.out _ _ ?_ (fun hHeld => ?_)
          · exact s10
          clear hK K1
          try simp only [List.getElem_toArray]
          try simp only [List.getElem_cons_succ]
          try simp only [List.getElem_cons_zero]
          try simp only [Act.put]
          try simp only [List.setIfInBounds_toArray]
          try simp only [List.set_cons_succ]
          try simp only [List.set_cons_zero]
          clear s10 z0 e0 z1 e1 z2 e2 z3 e3 z4 e4
          refine wpAnyH_take (i := 10) (v := (.int .i64 0)) rfl (by kernel_rfl) (by kernel_rfl) (by kernel_rfl) (fun _ _ _ h => h) (Or.inl ⟨by rfl, ?_⟩) (by assumption) ?_
          · intro w hSw
            (try dsimp only at hSw)
            go_simp
          try simp only [List.getElem_toArray]
          try simp only [List.getElem_cons_succ]
          try simp only [List.getElem_cons_zero]
          try simp only [Act.put]
          try simp only [List.setIfInBounds_toArray]
          try simp only [List.set_cons_succ]
          try simp only [List.set_cons_zero]
          refine wpAnyH_done (by kernel_rfl) ?_ _
          refine NoPanic.normal ?_
          go_wp2_with fail
          go_meet
          exact ⟨_, gb, xa, xn, xc, ya, yn, yc, na, nn, nc, pa, pn, pc, Vd, U9, V, rfl, by simp, by simp, AF.out⟩
      · go_simp
        try go_wp2_with fail
        have h0 := below_new (o := .cells #[.slice none 0 0, .slice none 0 0, .int .i64 0, .slice none 0 0, .slice none 0 0] 31) (w := U) (below_drew _)
        have hbC : Below U.drew.heap.size U.drew (U.alloc (.cells #[.slice none 0 0, .slice none 0 0, .int .i64 0, .slice none 0 0, .slice none 0 0] 31)).drew := ⟨h0.os, h0.tape, h0.output, h0.size, h0.block⟩
        have E0 : Hid (Bk (U.alloc (.cells #[.slice none 0 0, .slice none 0 0, .int .i64 0, .slice none 0 0, .slice none 0 0] 31)).drew U.heap.size 31 [.slice none 0 0, .slice none 0 0, .int .i64 0, .slice none 0 0, .slice none 0 0]) := (Bk.new U 31 [.slice none 0 0, .slice none 0 0, .int .i64 0, .slice none 0 0, .slice none 0 0]).below (below_drew _)
        have G9 : Hid (U.heap.size ≤ U.heap.size) := Nat.le_refl _
        refine hK.out _ _ ?_ (fun hHeld => ?_)
        · exact kl2c hbC (by assumption)
        clear hK K1
        try simp only [List.getElem_toArray]
        try simp only [List.getElem_cons_succ]
        try simp only [List.getElem_cons_zero]
        try simp only [Act.put]
        try simp only [List.setIfInBounds_toArray]
        try simp only [List.set_cons_succ]
        try simp only [List.set_cons_zero]
        clear hbC h0
        generalize (U.alloc (.cells #[.slice none 0 0, .slice none 0 0, .int .i64 0, .slice none 0 0, .slice none 0 0] 31)).drew = v6 at *
        refine wpAnyH_ready (rs := [2]) (by kernel_rfl) (by simp) ?_
        refine AllReadyH.cons rfl (fun K1 hK => ?_) AllReadyH.nil
        go_simp
        have hz := kl2_bel (by assumption)
        refine (HLP.out _ hz).mono ?_
        rintro r q1 ⟨b1, rfl, hb1, hbC, hO1⟩
        have O1 := hid hO1
        clear hO1
        have E1 := hid (E0.out.below hbC)
        clear E0
        clear hz
        go_wp2_with fail
        refine hK.out _ _ ?_ (fun hHeld => ?_)
        · exact kl2c hbC (by assumption)
        clear hK K1
        try simp only [List.getElem_toArray]
        try simp only [List.getElem_cons_succ]
        try simp only [List.getElem_cons_zero]
        try simp only [Act.put]
        try simp only [List.setIfInBounds_toArray]
        try simp only [List.set_cons_succ]
        try simp only [List.set_cons_zero]
        clear hbC
        refine wpAnyH_ready (rs := [3]) (by kernel_rfl) (by simp) ?_
        refine AllReadyH.cons rfl (fun K1 hK => ?_) AllReadyH.nil
        go_simp
        have hz := kl2_bel (by assumption)
        refine (HDO.out _ _ hz O1.out).mono ?_
        rintro r q2 ⟨ea, en, ec, fa, fn, fc, Ve, Ue, rfl, hO2, hbC⟩
        have O2 := hid hO2
        clear hO2 O1
        have E2 := hid (E1.out.below hbC)
        clear E1
        clear hz
        go_wp2_with fail
        refine hK.out _ _ ?_ (fun hHeld => ?_)
        · exact kl2c hbC (by assumption)
        clear hK K1
        try simp only [List.getElem_toArray]
        try simp only [List.getElem_cons_succ]
        try simp only [List.getElem_cons_zero]
        try simp only [Act.put]
        try simp only [List.setIfInBounds_toArray]
        try simp only [List.set_cons_succ]
        try simp only [List.set_cons_zero]
        clear hbC
        refine wpAnyH_ready (rs := [4]) (by kernel_rfl) (by simp) ?_
        refine AllReadyH.cons rfl (fun K1 hK => ?_) AllReadyH.nil
        go_simp
        have hz := kl2_bel (by assumption)
        refine (HSO.out _ _ _ _ _ _ _ _ _ _ hz O2.out).mono ?_
        rintro r q3 ⟨xa, xn, xc, ya, yn, yc, na, nn, nc, pa, pn, pc, Vd, U9, V, rfl, hO3, hbC⟩
        have O3 := hid (sto_base hO3 (Nat.le_refl _))
        have HQ3 := hid hz.size
        have E3 := hid (E2.out.below hbC)
        have F9 : Hid (∀ y, stb xa xn xc ya yn yc na nn nc pa pn pc Vd U9 V ([], []) y → y ≠ U.heap.size) := fun y hy => by have h1 := (sto_lt hO3 hy).1; have h2 := E2.out.lt; omega
        clear E2
        clear hO3 O2
        clear hz
        go_wp2_with fail
        refine hK.out _ _ ?_ (fun hHeld => ?_)
        · exact kl2c hbC (by assumption)
        clear hK K1
        try simp only [List.getElem_toArray]
        try simp only [List.getElem_cons_succ]
        try simp only [List.getElem_cons_zero]
        try simp only [Act.put]
        try simp only [List.setIfInBounds_toArray]
        try simp only [List.set_cons_succ]
        try simp only [List.set_cons_zero]
        clear hbC
        refine wpAnyH_take (i := 5) (v := (.tuple #[.agg #[.slice xa xn xc, .slice ya yn yc, .int .i64 1, .slice na nn nc, .slice pa pn pc], .int .i64 0])) rfl (by kernel_rfl) (by kernel_rfl) (by kernel_rfl) (fun _ _ _ h => h) (Or.inl ⟨by rfl, ?_⟩) (by assumption) ?_
        · intro w hSw
          (try dsimp only at hSw)
          go_simp
        try simp only [List.getElem_toArray]
        try simp only [List.getElem_cons_succ]
        try simp only [List.getElem_cons_zero]
        try simp only [Act.put]
        try simp only [List.setIfInBounds_toArray]
        try simp only [List.set_cons_succ]
        try simp only [List.set_cons_zero]
        refine wpAnyH_take (i := 6) (v := (.agg #[.slice xa xn xc, .slice ya yn yc, .int .i64 1, .slice na nn nc, .slice pa pn pc])) rfl (by kernel_rfl) (by kernel_rfl) (by kernel_rfl) (fun _ _ _ h => h) (Or.inl ⟨by rfl, ?_⟩) (by assumption) ?_
        · intro w hSw
          (try dsimp only at hSw)
          go_simp
        try simp only [List.getElem_toArray]
        try simp only [List.getElem_cons_succ]
        try simp only [List.getElem_cons_zero]
        try simp only [Act.put]
        try simp only [List.setIfInBounds_toArray]
        try simp only [List.set_cons_succ]
        try simp only [List.set_cons_zero]
        refine wpAnyH_take (i := 7) (v := (.int .i64 0)) rfl (by kernel_rfl) (by kernel_rfl) (by kernel_rfl) (fun _ _ _ h => h) (Or.inl ⟨by rfl, ?_⟩) (by assumption) ?_
        · intro w hSw
          (try dsimp only at hSw)
          go_simp
        try simp only [List.getElem_toArray]
        try simp only [List.getElem_cons_succ]
        try simp only [List.getElem_cons_zero]
        try simp only [Act.put]
        try simp only [List.setIfInBounds_toArray]
        try simp only [List.set_cons_succ]
        try simp only [List.set_cons_zero]
        have hz := kl2_bel (by assumption)
        have z0 := E3.out.cell (j := 0) rfl
        have z1 := E3.out.cell (j := 1) rfl
        have z2 := E3.out.cell (j := 2) rfl
        have z3 := E3.out.cell (j := 3) rfl
        have z4 := E3.out.cell (j := 4) rfl
        have e0 := E3.out.free 0
        have e1 := E3.out.free 1
        have e2 := E3.out.free 2
        have e3 := E3.out.free 3
        have e4 := E3.out.free 4
        have ho : Only (fun y => y = U.heap.size) q3 (((((q3.setCell ⟨U.heap.size, 0, none⟩ (.slice xa xn xc)).setCell ⟨U.heap.size, 1, none⟩ (.slice ya yn yc)).setCell ⟨U.heap.size, 2, none⟩ (.int .i64 1)).setCell ⟨U.heap.size, 3, none⟩ (.slice na nn nc)).setCell ⟨U.heap.size, 4, none⟩ (.slice pa pn pc)) := (((((only_set (R := fun y => y = U.heap.size) (p := ⟨U.heap.size, 0, none⟩) rfl _).trans (only_set (R := fun y => y = U.heap.size) (p := ⟨U.heap.size, 1, none⟩) rfl _)).trans (only_set (R := fun y => y = U.heap.size) (p := ⟨U.heap.size, 2, none⟩) rfl _)).trans (only_set (R := fun y => y = U.heap.size) (p := ⟨U.heap.size, 3, none⟩) rfl _)).trans (only_set (R := fun y => y = U.heap.size) (p := ⟨U.heap.size, 4, none⟩) rfl _))
        have hU : Below U.heap.size U (((((q3.setCell ⟨U.heap.size, 0, none⟩ (.slice xa xn xc)).setCell ⟨U.heap.size, 1, none⟩ (.slice ya yn yc)).setCell ⟨U.heap.size, 2, none⟩ (.int .i64 1)).setCell ⟨U.heap.size, 3, none⟩ (.slice na nn nc)).setCell ⟨U.heap.size, 4, none⟩ (.slice pa pn pc)) := hz.trans (ho.below hz.size (fun y hy e => by have := G9.out; omega))
        have AF : Hid (SnB n w (((((q3.setCell ⟨U.heap.size, 0, none⟩ (.slice xa xn xc)).setCell ⟨U.heap.size, 1, none⟩ (.slice ya yn yc)).setCell ⟨U.heap.size, 2, none⟩ (.int .i64 1)).setCell ⟨U.heap.size, 3, none⟩ (.slice na nn nc)).setCell ⟨U.heap.size, 4, none⟩ (.slice pa pn pc)) w.heap.size U.heap.size U.heap.size xa xn xc ya yn yc na nn nc pa pn pc Vd U9 V) := ⟨B1.out.trans (hU.mono B1.out.size), K1.out.below hU, (((((E3.out.set 0 (.slice xa xn xc)).set 1 (.slice ya yn yc)).set 2 (.int .i64 1)).set 3 (.slice na nn nc)).set 4 (.slice pa pn pc)), sto_to (sto_base O3.out HQ3.out) ho (fun y hy e => F9.out y hy e), F9.out⟩
        have s10 := kl2 (T1.out.call hU)
        clear hU ho hz
        refine wpAnyH_ready (rs := [9]) (by kernel_rfl) (by simp) ?_
        refine AllReadyH.cons rfl (fun K1 hK => ?_) AllReadyH.nil
        go_simp
        try go_wp2_with fail
        refine hK.out _ _ ?_ (fun hHeld => ?_)
        · exact s10
        clear hK K1
        try simp only [List.getElem_toArray]
        try simp only [List.getElem_cons_succ]
        try simp only [List.getElem_cons_zero]
        try simp only [Act.put]
        try simp only [List.setIfInBounds_toArray]
        try simp only [List.set_cons_succ]
        try simp only [List.set_cons_zero]
        clear s10 z0 e0 z1 e1 z2 e2 z3 e3 z4 e4
        refine wpAnyH_take (i := 10) (v := (.int .i64 0)) rfl (by kernel_rfl) (by kernel_rfl) (by kernel_rfl) (fun _ _ _ h => h) (Or.inl ⟨by rfl, ?_⟩) (by assumption) ?_
        · intro w hSw
          (try dsimp only at hSw)
          go_simp
        try simp only [List.getElem_toArray]
        try simp only [List.getElem_cons_succ]
        try simp only [List.getElem_cons_zero]
        try simp only [Act.put]
        try simp only [List.setIfInBounds_toArray]
        try simp only [List.set_cons_succ]
        try simp only [List.set_cons_zero]
        refine wpAnyH_done (by kernel_rfl) ?_ _
        refine NoPanic.normal ?_
        go_wp2_with fail
        go_meet
        exact ⟨_, U.heap.size, xa, xn, xc, ya, yn, yc, na, nn, nc, pa, pn, pc, Vd, U9, V, rfl, by simp, by simp, AF.out⟩
    case rest =>
      obtain ⟨V8, gb, xa, xn, xc, ya, yn, yc, na, nn, nc, pa, pn, pc, Vd, U9, V, rfl, rfl, rfl, hF⟩ := hcut
      have HF := hid hF
      clear hF T1 HLP HDO HSO K1 K1D c0 c1 B1
      have s0 := HF.out.box.cell (j := 0) rfl
      have s1 := HF.out.box.cell (j := 1) rfl
      have s2 := HF.out.box.cell (j := 2) rfl
      have s3 := HF.out.box.cell (j := 3) rfl
      have s4 := HF.out.box.cell (j := 4) rfl
      have r0 := HF.out.rbk.cell (j := 0) rfl
      have r1 := HF.out.rbk.cell (j := 1) rfl
      have r2 := HF.out.rbk.cell (j := 2) rfl
      have r3 := HF.out.rbk.cell (j := 3) rfl
      have r4 := HF.out.rbk.cell (j := 4) rfl
      have f0 := HF.out.rbk.free 0
      have f1 := HF.out.rbk.free 1
      have f2 := HF.out.rbk.free 2
      have f3 := HF.out.rbk.free 3
      have f4 := HF.out.rbk.free 4
      have KF := hid (((((HF.out.rbk.set 0 (.slice xa xn xc)).set 1 (.slice ya yn yc)).set 2 (.int .i64 1)).set 3 (.slice na nn nc)).set 4 (.slice pa pn pc))
      have ho : Only (fun y => y = w.heap.size) V8 (((((V8.setCell ⟨w.heap.size, 0, none⟩ (.slice xa xn xc)).setCell ⟨w.heap.size, 1, none⟩ (.slice ya yn yc)).setCell ⟨w.heap.size, 2, none⟩ (.int .i64 1)).setCell ⟨w.heap.size, 3, none⟩ (.slice na nn nc)).setCell ⟨w.heap.size, 4, none⟩ (.slice pa pn pc)) := (((((only_set (R := fun y => y = w.heap.size) (p := ⟨w.heap.size, 0, none⟩) rfl _).trans (only_set (R := fun y => y = w.heap.size) (p := ⟨w.heap.size, 1, none⟩) rfl _)).trans (only_set (R := fun y => y = w.heap.size) (p := ⟨w.heap.size, 2, none⟩) rfl _)).trans (only_set (R := fun y => y = w.heap.size) (p := ⟨w.heap.size, 3, none⟩) rfl _)).trans (only_set (R := fun y => y = w.heap.size) (p := ⟨w.heap.size, 4, none⟩) rfl _))
      have HFIN : Hid (SnPost n w (.returned (.tuple #[.agg #[.slice xa xn xc, .slice ya yn yc, .int .i64 1, .slice na nn nc, .slice pa pn pc], .bool true])) (((((V8.setCell ⟨w.heap.size, 0, none⟩ (.slice xa xn xc)).setCell ⟨w.heap.size, 1, none⟩ (.slice ya yn yc)).setCell ⟨w.heap.size, 2, none⟩ (.int .i64 1)).setCell ⟨w.heap.size, 3, none⟩ (.slice na nn nc)).setCell ⟨w.heap.size, 4, none⟩ (.slice pa pn pc))) := by
        refine sn_yes HN.out (HF.out.bel.trans (ho.below HF.out.bel.size (fun y hy e => by omega))) (sto_base (sto_to HF.out.own ho (fun y hy e => ?_)) HSU.out)
        have h1 := (sto_lt HF.out.own hy).1
        have h2 := HWU.out
        omega
      clear ho
      go_wp2
      try simp only [Exit.inBlock, Exit.then]
      refine bodyPost_ret (v := .tuple #[.agg #[.slice xa xn xc, .slice ya yn yc, .int .i64 1, .slice na nn nc, .slice pa pn pc], .bool true]) ?_ rfl ?_
      · exact results_sto rfl _ _ w.heap.size rfl rfl (KF.out.cell (j := 0) rfl) (KF.out.cell (j := 1) rfl) (KF.out.cell (j := 2) rfl) (KF.out.cell (j := 3) rfl) (KF.out.cell (j := 4) rfl)
      · exact HFIN.out
  · have HN : Hid (¬ snOk n) := hn
    have HD : Hid (∀ v : World, Calls Tryz.prog 36 #[.int .i64 n] v fun e w' => ∃ sa sn sc da dn dc V U, e = .returned (.tuple #[.agg #[.slice sa sn sc, .slice da dn dc], .bool false]) ∧ DO w' v.heap.size (.slice sa sn sc) V (.slice da dn dc) U emD ∧ Below v.heap.size v w') := fun v => by
      have h := implDiskNew_any n v
      rw [dnV, if_neg hn] at h
      exact h
    clear hn HE HE2 HE3
    go_enter Tryz.func7, Tryz.ntmps7
    go_wp2_with fail
    refine (HD.out _).mono ?_
    rintro e w1 ⟨sa, sn, sc, da, dn, dc, Vn, Un, rfl, hO, hb⟩
    have hbn := below_new (o := .cells #[.slice sa sn sc, .slice da dn dc] 25) (w := w1) (Below.refl _ _)
    have hb1 := hb.trans (hbn.mono hb.size)
    have B1 := hid (B0.out.trans (hb1.mono B0.out.size))
    have K1 := hid (K0.out.below hb1)
    clear hb hO hbn hb1 HD B0 K0
    have r0 := K1.out.cell (j := 0) rfl
    have r1 := K1.out.cell (j := 1) rfl
    have r2 := K1.out.cell (j := 2) rfl
    have r3 := K1.out.cell (j := 3) rfl
    have r4 := K1.out.cell (j := 4) rfl
    have f0 := K1.out.free 0
    have f1 := K1.out.free 1
    have f2 := K1.out.free 2
    have f3 := K1.out.free 3
    have f4 := K1.out.free 4
    have KF := hid (((((K1.out.set 0 (.slice none 0 0)).set 1 (.slice none 0 0)).set 2 (.int .i64 0)).set 3 (.slice none 0 0)).set 4 (.slice none 0 0))
    have ho : Only (fun y => y = w.heap.size) (w1.alloc (.cells #[.slice sa sn sc, .slice da dn dc] 25)) ((((((w1.alloc (.cells #[.slice sa sn sc, .slice da dn dc] 25)).setCell ⟨w.heap.size, 0, none⟩ (.slice none 0 0)).setCell ⟨w.heap.size, 1, none⟩ (.slice none 0 0)).setCell ⟨w.heap.size, 2, none⟩ (.int .i64 0)).setCell ⟨w.heap.size, 3, none⟩ (.slice none 0 0)).setCell ⟨w.heap.size, 4, none⟩ (.slice none 0 0)) := (((((only_set (R := fun y => y = w.heap.size) (p := ⟨w.heap.size, 0, none⟩) rfl _).trans (only_set (R := fun y => y = w.heap.size) (p := ⟨w.heap.size, 1, none⟩) rfl _)).trans (only_set (R := fun y => y = w.heap.size) (p := ⟨w.heap.size, 2, none⟩) rfl _)).trans (only_set (R := fun y => y = w.heap.size) (p := ⟨w.heap.size, 3, none⟩) rfl _)).trans (only_set (R := fun y => y = w.heap.size) (p := ⟨w.heap.size, 4, none⟩) rfl _))
    have HFIN : Hid (SnPost n w (.returned (.tuple #[.agg #[.slice none 0 0, .slice none 0 0, .int .i64 0, .slice none 0 0, .slice none 0 0], .bool false])) ((((((w1.alloc (.cells #[.slice sa sn sc, .slice da dn dc] 25)).setCell ⟨w.heap.size, 0, none⟩ (.slice none 0 0)).setCell ⟨w.heap.size, 1, none⟩ (.slice none 0 0)).setCell ⟨w.heap.size, 2, none⟩ (.int .i64 0)).setCell ⟨w.heap.size, 3, none⟩ (.slice none 0 0)).setCell ⟨w.heap.size, 4, none⟩ (.slice none 0 0))) := sn_no HN.out (B1.out.trans (ho.below B1.out.size (fun y hy e => by omega)))
    clear ho
    go_wp2
    try simp only [Exit.inBlock, Exit.then]
    refine bodyPost_ret (v := .tuple #[.agg #[.slice none 0 0, .slice none 0 0, .int .i64 0, .slice none 0 0, .slice none 0 0], .bool false]) ?_ rfl ?_
    · exact results_sto rfl _ _ w.heap.size rfl rfl (KF.out.cell (j := 0) rfl) (KF.out.cell (j := 1) rfl) (KF.out.cell (j := 2) rfl) (KF.out.cell (j := 3) rfl) (KF.out.cell (j := 4) rfl)
    · exact HFIN.out
open Go.RowKit
set_option linter.unusedVariables false
set_option maxHeartbeats 16000000 in
set_option maxRecDepth 100000 in
theorem specStoreOpen0_any (S : Nat → Prop) (sa : Option Addr) (sn sc : Nat) (da : Option Addr) (dn dc : Nat) (d : DK) (w : World) (h : Dk w S sa sn sc da dn dc d) (hsm : smallD d) (q1 : dkOk d = true) (q2 : dn = 0) (q3g : 0 < (bestM d 2).1) (q4r : (bestM d 2).2 = 0) (h1 : sn ≤ 1048576) (h2 : dn ≤ 1048576) :
    Calls Tryz.prog 34 #[.agg #[.slice sa sn sc, .slice da dn dc]] w fun e w' => ScPost d w e w' := by
  have B0 : Hid (Below w.heap.size w ((w.alloc (.cells #[.slice sa sn sc, .slice da dn dc] 25)).alloc (.cells #[.slice none 0 0, .slice none 0 0, .int .i64 0, .slice none 0 0, .slice none 0 0] 31))) := below_new (below_new (Below.refl _ _))
  have K0 := hid ((Bk.new w 25 [.slice sa sn sc, .slice da dn dc]).alloc (.cells #[.slice none 0 0, .slice none 0 0, .int .i64 0, .slice none 0 0, .slice none 0 0] 31))
  have R0 : Hid (Bk ((w.alloc (.cells #[.slice sa sn sc, .slice da dn dc] 25)).alloc (.cells #[.slice none 0 0, .slice none 0 0, .int .i64 0, .slice none 0 0, .slice none 0 0] 31)) (w.heap.size + 1) 31 [.slice none 0 0, .slice none 0 0, .int .i64 0, .slice none 0 0, .slice none 0 0]) := by
    have h := Bk.new (w.alloc (.cells #[.slice sa sn sc, .slice da dn dc] 25)) 31 [.slice none 0 0, .slice none 0 0, .int .i64 0, .slice none 0 0, .slice none 0 0]
    show Bk _ _ _ _
    simpa using h
  have D0 := hid ((h.mono (R := fun y => y < w.heap.size) (fun y _ hy => hy)).below B0.out)
  have HSM := hid hsm
  have HND : Hid (dn = d.dw.length) := h.hd.len.1
  have Q1 := hid q1
  have Q2 := hid q2
  have Q3 := hid q3g
  have Q4 := hid q4r
  clear h hsm q1 q2 q3g q4r
  go_enter Tryz.func34, Tryz.ntmps34
  go_wp2_with fail
  refine (specDiskOk_any _ sa sn sc da dn dc d _ D0.out).mono ?_
  generalize (w.alloc (.cells #[.slice sa sn sc, .slice da dn dc] 25)).alloc (.cells #[.slice none 0 0, .slice none 0 0, .int .i64 0, .slice none 0 0, .slice none 0 0] 31) = U at *
  rintro e w1 ⟨rfl, hb⟩
  have K1 := hid (K0.out.below hb)
  have R1 := hid (R0.out.below hb)
  have D1 := hid (D0.out.below hb)
  have B1 := hid (B0.out.trans ((hb).mono B0.out.size))
  clear K0 R0 D0 B0 hb
  cases hok : dkOk d with
  | false => exact absurd (Q1.out.symm.trans hok) (by decide)
  | true =>
    have x0 := K1.out.cell (j := 0) rfl
    have x1 := K1.out.cell (j := 1) rfl
    by_cases hdw : 0 < dn
    · exact absurd hdw (by have := Q2.out; omega)
    · have hdw2 : ¬ (0 : Int) < (dn : Int) := by omega
      have HNO : Hid (¬ (dkOk d = false ∨ 0 < d.dw.length)) := fun e => e.elim (fun e => by rw [hok] at e; cases e) (fun e => hdw (by rw [HND.out]; exact e))
      have HDN : Hid (d.dw = []) := List.eq_nil_of_length_eq_zero (by have := HND.out; omega)
      have HOK := hid hok
      clear hok
      go_wp2_with fail
      refine (specDiskMeta_any _ sa sn sc da dn dc d _ D1.out HSM.out).mono ?_
      rintro e w2 ⟨rfl, hb⟩
      have K2 := hid (K1.out.below hb)
      have R2 := hid (R1.out.below hb)
      have D2 := hid (D1.out.below hb)
      have B2 := hid (B1.out.trans ((hb).mono B1.out.size))
      clear K1 R1 D1 B1 hb x0 x1
      have HBR := hid (bestM_root d 2)
      have HSR : Hid (stR d = if (bestM d 2).2 = 0 then some ([], []) else ldV d.sh 400 (bestM d 2).2 ([], [])) := rfl
      have HS2 := hid (stC_2 HNO.out)
      have HS3 := hid (stC_3 HNO.out)
      have HSS := hid (fun s => stC_s (s := s) HNO.out)
      have HY : Hid (∀ (w' : World) s xa xn xc ya yn yc na nn nc pa pn pc, Below w.heap.size w w' → stC d = 0 → stR d = some s → StR w' (fun _ => True) xa xn xc ya yn yc na nn nc pa pn pc d s → ScPost d w (.returned (.tuple #[.agg #[.slice xa xn xc, .slice ya yn yc, .int .i64 (bestM d 2).1, .slice na nn nc, .slice pa pn pc], .int .i64 0])) w') := fun w' s xa xn xc ya yn yc na nn nc pa pn pc h1 h2 h3 h4 => sc_yes h1 h2 h3 h4
      generalize (bestM d 2).1 = mg at *
      generalize (bestM d 2).2 = mr at *
      have hbn : Below w2.heap.size w2 (w2.alloc (.cells #[.int .i64 mg, .int .i64 mr] 75)) := below_new (Below.refl _ _)
      have M3 := hid (Bk.new w2 75 [.int .i64 mg, .int .i64 mr])
      have HLT : Hid (w.heap.size + 1 < w2.heap.size) := R2.out.lt
      have K3 := hid (K2.out.below hbn)
      have R3 := hid (R2.out.below hbn)
      have D3 := hid (D2.out.below hbn)
      have B3 := hid (B2.out.trans ((hbn).mono B2.out.size))
      clear K2 R2 D2 B2 hbn
      by_cases hm : 0 < mg
      · skip
        have HM := hid hm
        rw [show decide (0 < mg) = true from decide_eq_true hm]
        clear hm
        go_upto_region 6 with (fail)
        generalize w2.alloc (.cells #[.int .i64 mg, .int .i64 mr] 75) = V3 at *
        generalize w2.heap.size = bm at *
        have K4 := hid (K3.out.below (below_drew V3))
        have R4 := hid (R3.out.below (below_drew V3))
        have D4 := hid (D3.out.below (below_drew V3))
        have M4 := hid (M3.out.below (below_drew V3))
        have B4 := hid (B3.out.trans (((below_drew V3)).mono B3.out.size))
        go_cut [6] (fun x v => ∃ V gb xa xn xc ya yn yc Vd Ud, V = v ∧ x = .pointer (some ⟨gb, 0, none⟩) ∧ S6 V3 V gb xa xn xc ya yn yc Vd Ud d mg)
        case first =>
          refine wp_region_noPanic ?_
          refine wp_region_held_drew (S := fun v => v.cell? ⟨w.heap.size, 0, none⟩ = some (.slice sa sn sc) ∧ v.cell? ⟨w.heap.size, 1, none⟩ = some (.slice da dn dc) ∧ v.cell? ⟨bm, 0, none⟩ = some (.int .i64 mg)) (by kernel_rfl) (⟨K4.out.cell (j := 0) rfl, K4.out.cell (j := 1) rfl, M4.out.cell (j := 0) rfl⟩) (fun hHeld => ?_)
          simp only [List.size_toArray, List.length_cons, List.length_nil, Array.replicate_succ, Array.replicate_zero, Nat.reduceAdd, List.push_toArray, List.nil_append, List.cons_append]
          refine wpAnyH_take (i := 0) (v := (.agg #[.slice sa sn sc, .slice da dn dc])) rfl (by kernel_rfl) (by kernel_rfl) (by kernel_rfl) (fun _ _ _ h => h) (Or.inl ⟨by rfl, ?_⟩) (by assumption) ?_
          · intro w hSw
            (try dsimp only at hSw)
            go_simp
          try simp only [List.getElem_toArray]
          try simp only [List.getElem_cons_succ]
          try simp only [List.getElem_cons_zero]
          try simp only [Act.put]
          try simp only [List.setIfInBounds_toArray]
          try simp only [List.set_cons_succ]
          try simp only [List.set_cons_zero]
          refine wpAnyH_take (i := 2) (v := (.pointer (some ⟨bm, 0, none⟩))) rfl (by kernel_rfl) (by kernel_rfl) (by kernel_rfl) (fun _ _ _ h => h) (Or.inl ⟨by rfl, ?_⟩) (by assumption) ?_
          · intro w hSw
            (try dsimp only at hSw)
            go_simp
          try simp only [List.getElem_toArray]
          try simp only [List.getElem_cons_succ]
          try simp only [List.getElem_cons_zero]
          try simp only [Act.put]
          try simp only [List.setIfInBounds_toArray]
          try simp only [List.set_cons_succ]
          try simp only [List.set_cons_zero]
          refine wpAnyH_take (i := 3) (v := (.int .i64 mg)) rfl (by kernel_rfl) (by kernel_rfl) (by kernel_rfl) (fun _ _ _ h => h) (Or.inl ⟨by rfl, ?_⟩) (by assumption) ?_
          · intro w hSw
            (try dsimp only at hSw)
            go_simp
          try simp only [List.getElem_toArray]
          try simp only [List.getElem_cons_succ]
          try simp only [List.getElem_cons_zero]
          try simp only [Act.put]
          try simp only [List.setIfInBounds_toArray]
          try simp only [List.set_cons_succ]
          try simp only [List.set_cons_zero]
          refine wpAnyH_ready (rs := [1, 5]) (by kernel_rfl) (by simp) ?_
          refine AllReadyH.cons rfl (fun K1 hK => ?_) (AllReadyH.cons rfl (fun K1 hK => ?_) AllReadyH.nil)
          · go_simp
            refine (l05Copy_any _ sa sn sc da dn dc d _ D4.out HSM.out h1 h2).mono ?_
            rintro r q1 ⟨xa, xn, xc, ya, yn, yc, Vd, Ud, rfl, hO, hbC⟩
            go_wp2_with fail
            refine hK.out _ _ ?_ (fun hHeld => ?_)
            · exact ⟨(K4.out.below hbC).cell (j := 0) rfl, (K4.out.below hbC).cell (j := 1) rfl, (M4.out.below hbC).cell (j := 0) rfl⟩
            clear hK K1
            try simp only [List.getElem_toArray]
            try simp only [List.getElem_cons_succ]
            try simp only [List.getElem_cons_zero]
            try simp only [Act.put]
            try simp only [List.setIfInBounds_toArray]
            try simp only [List.set_cons_succ]
            try simp only [List.set_cons_zero]
            refine wpAnyH_take (i := 4) (v := (.agg #[.slice xa xn xc, .slice ya yn yc, .int .i64 mg, .slice none 0 0, .slice none 0 0])) rfl (by kernel_rfl) (by kernel_rfl) (by kernel_rfl) (fun _ _ _ h => h) (Or.inl ⟨by rfl, ?_⟩) (by assumption) ?_
            · intro w hSw
              (try dsimp only at hSw)
              go_simp
            try simp only [List.getElem_toArray]
            try simp only [List.getElem_cons_succ]
            try simp only [List.getElem_cons_zero]
            try simp only [Act.put]
            try simp only [List.setIfInBounds_toArray]
            try simp only [List.set_cons_succ]
            try simp only [List.set_cons_zero]
            refine wpAnyH_ready (rs := [5]) (by kernel_rfl) (by simp) ?_
            refine AllReadyH.cons rfl (fun K1 hK => ?_) AllReadyH.nil
            go_simp
            try go_wp2_with fail
            have hbn := below_new (o := .cells #[.slice none 0 0, .slice none 0 0, .int .i64 0, .slice none 0 0, .slice none 0 0] 31) (w := q1) (Below.refl _ _)
            have hbX : Below V3.drew.heap.size V3.drew (q1.alloc (.cells #[.slice none 0 0, .slice none 0 0, .int .i64 0, .slice none 0 0, .slice none 0 0] 31)) := hbC.trans (hbn.mono hbC.size)
            have C5 := hid hbX
            have E5 := hid (Bk.new q1 31 [.slice none 0 0, .slice none 0 0, .int .i64 0, .slice none 0 0, .slice none 0 0])
            have G5 : Hid (V3.heap.size ≤ q1.heap.size) := hbC.size
            have F5 : Hid (∀ y, dbl (.slice xa xn xc) Vd (.slice ya yn yc) Ud y → y ≠ q1.heap.size) := fun y hy => by have := (hO.lt hy).2; omega
            have O5 : Hid (DO (q1.alloc (.cells #[.slice none 0 0, .slice none 0 0, .int .i64 0, .slice none 0 0, .slice none 0 0] 31)) V3.heap.size (.slice xa xn xc) Vd (.slice ya yn yc) Ud d) := (hO.base (Nat.le_refl _)).below hbn
            have Q5 : Hid (Below V3.heap.size V3 (q1.alloc (.cells #[.slice none 0 0, .slice none 0 0, .int .i64 0, .slice none 0 0, .slice none 0 0] 31))) := (below_drew V3).trans hbX
            clear hbC hbn hbX hO
            refine hK.out _ _ ?_ (fun hHeld => ?_)
            · exact ⟨(K4.out.below C5.out).cell (j := 0) rfl, (K4.out.below C5.out).cell (j := 1) rfl, (M4.out.below C5.out).cell (j := 0) rfl⟩
            clear hK K1
            try simp only [List.getElem_toArray]
            try simp only [List.getElem_cons_succ]
            try simp only [List.getElem_cons_zero]
            try simp only [Act.put]
            try simp only [List.setIfInBounds_toArray]
            try simp only [List.set_cons_succ]
            try simp only [List.set_cons_zero]
            generalize q1.alloc (.cells #[.slice none 0 0, .slice none 0 0, .int .i64 0, .slice none 0 0, .slice none 0 0] 31) = v8 at *
            generalize q1.heap.size = gb at *
            have z0 := E5.out.cell (j := 0) rfl
            have z1 := E5.out.cell (j := 1) rfl
            have z2 := E5.out.cell (j := 2) rfl
            have z3 := E5.out.cell (j := 3) rfl
            have z4 := E5.out.cell (j := 4) rfl
            have e0 := E5.out.free 0
            have e1 := E5.out.free 1
            have e2 := E5.out.free 2
            have e3 := E5.out.free 3
            have e4 := E5.out.free 4
            have o5 : Only (fun y => y = gb) v8 (((((v8.setCell ⟨gb, 0, none⟩ (.slice xa xn xc)).setCell ⟨gb, 1, none⟩ (.slice ya yn yc)).setCell ⟨gb, 2, none⟩ (.int .i64 mg)).setCell ⟨gb, 3, none⟩ (.slice none 0 0)).setCell ⟨gb, 4, none⟩ (.slice none 0 0)) := (((((only_set (R := fun y => y = gb) (p := ⟨gb, 0, none⟩) rfl _).trans (only_set (R := fun y => y = gb) (p := ⟨gb, 1, none⟩) rfl _)).trans (only_set (R := fun y => y = gb) (p := ⟨gb, 2, none⟩) rfl _)).trans (only_set (R := fun y => y = gb) (p := ⟨gb, 3, none⟩) rfl _)).trans (only_set (R := fun y => y = gb) (p := ⟨gb, 4, none⟩) rfl _))
            have AF : Hid (S6 V3 (((((v8.setCell ⟨gb, 0, none⟩ (.slice xa xn xc)).setCell ⟨gb, 1, none⟩ (.slice ya yn yc)).setCell ⟨gb, 2, none⟩ (.int .i64 mg)).setCell ⟨gb, 3, none⟩ (.slice none 0 0)).setCell ⟨gb, 4, none⟩ (.slice none 0 0)) gb xa xn xc ya yn yc Vd Ud d mg) := ⟨Q5.out.trans (o5.below Q5.out.size (fun y hy e => by have := G5.out; omega)), (((((E5.out.set 0 (.slice xa xn xc)).set 1 (.slice ya yn yc)).set 2 (.int .i64 mg)).set 3 (.slice none 0 0)).set 4 (.slice none 0 0)), O5.out.to o5 (fun y hy e => F5.out y hy e), G5.out, F5.out⟩
            have hK5 := (K4.out.below C5.out).to o5 (fun e => by have h1 := G5.out; have h2 := K3.out.lt; omega)
            have hM5 := (M4.out.below C5.out).to o5 (fun e => by have h1 := G5.out; have h2 := M3.out.lt; omega)
            refine wpAnyH_ready (rs := [6]) (by kernel_rfl) (by simp) ?_
            refine AllReadyH.cons rfl (fun K1 hK => ?_) AllReadyH.nil
            go_simp
            try go_wp2_with fail
            refine hK.out _ _ ?_ (fun hHeld => ?_)
            · exact ⟨hK5.cell (j := 0) rfl, hK5.cell (j := 1) rfl, hM5.cell (j := 0) rfl⟩
            clear hK K1
            try simp only [List.getElem_toArray]
            try simp only [List.getElem_cons_succ]
            try simp only [List.getElem_cons_zero]
            try simp only [Act.put]
            try simp only [List.setIfInBounds_toArray]
            try simp only [List.set_cons_succ]
            try simp only [List.set_cons_zero]
            refine wpAnyH_done (by kernel_rfl) ?_ _
            refine NoPanic.normal ?_
            clear z0 z1 z2 z3 z4 e0 e1 e2 e3 e4 hK5 hM5 o5
            go_wp2_with fail
            go_meet
            exact ⟨_, gb, xa, xn, xc, ya, yn, yc, Vd, Ud, rfl, by simp, AF.out⟩
          · go_simp
            try go_wp2_with fail
            have h0 := below_new (o := .cells #[.slice none 0 0, .slice none 0 0, .int .i64 0, .slice none 0 0, .slice none 0 0] 31) (w := V3) (below_drew _)
            have hbC : Below V3.drew.heap.size V3.drew (V3.alloc (.cells #[.slice none 0 0, .slice none 0 0, .int .i64 0, .slice none 0 0, .slice none 0 0] 31)).drew := ⟨h0.os, h0.tape, h0.output, h0.size, h0.block⟩
            have C4 := hid hbC
            have E4 : Hid (Bk (V3.alloc (.cells #[.slice none 0 0, .slice none 0 0, .int .i64 0, .slice none 0 0, .slice none 0 0] 31)).drew V3.heap.size 31 [.slice none 0 0, .slice none 0 0, .int .i64 0, .slice none 0 0, .slice none 0 0]) := (Bk.new V3 31 [.slice none 0 0, .slice none 0 0, .int .i64 0, .slice none 0 0, .slice none 0 0]).below (below_drew _)
            clear hbC h0
            refine hK.out _ _ ?_ (fun hHeld => ?_)
            · exact ⟨(K4.out.below C4.out).cell (j := 0) rfl, (K4.out.below C4.out).cell (j := 1) rfl, (M4.out.below C4.out).cell (j := 0) rfl⟩
            clear hK K1
            try simp only [List.getElem_toArray]
            try simp only [List.getElem_cons_succ]
            try simp only [List.getElem_cons_zero]
            try simp only [Act.put]
            try simp only [List.setIfInBounds_toArray]
            try simp only [List.set_cons_succ]
            try simp only [List.set_cons_zero]
            generalize (V3.alloc (.cells #[.slice none 0 0, .slice none 0 0, .int .i64 0, .slice none 0 0, .slice none 0 0] 31)).drew = v6 at *
            refine wpAnyH_ready (rs := [1]) (by kernel_rfl) (by simp) ?_
            refine AllReadyH.cons rfl (fun K1 hK => ?_) AllReadyH.nil
            go_simp
            refine (l05Copy_any _ sa sn sc da dn dc d _ (D4.out.below C4.out) HSM.out h1 h2).mono ?_
            rintro r q1 ⟨xa, xn, xc, ya, yn, yc, Vd, Ud, rfl, hO, hbC⟩
            go_wp2_with fail
            have hbX : Below V3.drew.heap.size V3.drew q1 := C4.out.trans (hbC.mono C4.out.size)
            have C5 := hid hbX
            have E5 := hid (E4.out.below hbC)
            have HV6 : V3.heap.size < v6.heap.size := E4.out.lt
            have G5 : Hid (V3.heap.size ≤ V3.heap.size) := Nat.le_refl _
            have F5 : Hid (∀ y, dbl (.slice xa xn xc) Vd (.slice ya yn yc) Ud y → y ≠ V3.heap.size) := fun y hy => by have := (hO.lt hy).1; omega
            have O5 : Hid (DO q1 V3.heap.size (.slice xa xn xc) Vd (.slice ya yn yc) Ud d) := hO.base (by omega)
            have Q5 : Hid (Below V3.heap.size V3 q1) := (below_drew V3).trans hbX
            clear hbC hbX hO E4 C4 HV6
            refine hK.out _ _ ?_ (fun hHeld => ?_)
            · exact ⟨(K4.out.below C5.out).cell (j := 0) rfl, (K4.out.below C5.out).cell (j := 1) rfl, (M4.out.below C5.out).cell (j := 0) rfl⟩
            clear hK K1
            try simp only [List.getElem_toArray]
            try simp only [List.getElem_cons_succ]
            try simp only [List.getElem_cons_zero]
            try simp only [Act.put]
            try simp only [List.setIfInBounds_toArray]
            try simp only [List.set_cons_succ]
            try simp only [List.set_cons_zero]
            refine wpAnyH_take (i := 4) (v := (.agg #[.slice xa xn xc, .slice ya yn yc, .int .i64 mg, .slice none 0 0, .slice none 0 0])) rfl (by kernel_rfl) (by kernel_rfl) (by kernel_rfl) (fun _ _ _ h => h) (Or.inl ⟨by rfl, ?_⟩) (by assumption) ?_
            · intro w hSw
              (try dsimp only at hSw)
              go_simp
            try simp only [List.getElem_toArray]
            try simp only [List.getElem_cons_succ]
            try simp only [List.getElem_cons_zero]
            try simp only [Act.put]
            try simp only [List.setIfInBounds_toArray]
            try simp only [List.set_cons_succ]
            try simp only [List.set_cons_zero]
            have z0 := E5.out.cell (j := 0) rfl
            have z1 := E5.out.cell (j := 1) rfl
            have z2 := E5.out.cell (j := 2) rfl
            have z3 := E5.out.cell (j := 3) rfl
            have z4 := E5.out.cell (j := 4) rfl
            have e0 := E5.out.free 0
            have e1 := E5.out.free 1
            have e2 := E5.out.free 2
            have e3 := E5.out.free 3
            have e4 := E5.out.free 4
            have o5 : Only (fun y => y = V3.heap.size) q1 (((((q1.setCell ⟨V3.heap.size, 0, none⟩ (.slice xa xn xc)).setCell ⟨V3.heap.size, 1, none⟩ (.slice ya yn yc)).setCell ⟨V3.heap.size, 2, none⟩ (.int .i64 mg)).setCell ⟨V3.heap.size, 3, none⟩ (.slice none 0 0)).setCell ⟨V3.heap.size, 4, none⟩ (.slice none 0 0)) := (((((only_set (R := fun y => y = V3.heap.size) (p := ⟨V3.heap.size, 0, none⟩) rfl _).trans (only_set (R := fun y => y = V3.heap.size) (p := ⟨V3.heap.size, 1, none⟩) rfl _)).trans (only_set (R := fun y => y = V3.heap.size) (p := ⟨V3.heap.size, 2, none⟩) rfl _)).trans (only_set (R := fun y => y = V3.heap.size) (p := ⟨V3.heap.size, 3, none⟩) rfl _)).trans (only_set (R := fun y => y = V3.heap.size) (p := ⟨V3.heap.size, 4, none⟩) rfl _))
            have AF : Hid (S6 V3 (((((q1.setCell ⟨V3.heap.size, 0, none⟩ (.slice xa xn xc)).setCell ⟨V3.heap.size, 1, none⟩ (.slice ya yn yc)).setCell ⟨V3.heap.size, 2, none⟩ (.int .i64 mg)).setCell ⟨V3.heap.size, 3, none⟩ (.slice none 0 0)).setCell ⟨V3.heap.size, 4, none⟩ (.slice none 0 0)) V3.heap.size xa xn xc ya yn yc Vd Ud d mg) := ⟨Q5.out.trans (o5.below Q5.out.size (fun y hy e => by have := G5.out; omega)), (((((E5.out.set 0 (.slice xa xn xc)).set 1 (.slice ya yn yc)).set 2 (.int .i64 mg)).set 3 (.slice none 0 0)).set 4 (.slice none 0 0)), O5.out.to o5 (fun y hy e => F5.out y hy e), G5.out, F5.out⟩
            have hK5 := (K4.out.below C5.out).to o5 (fun e => by have h1 := G5.out; have h2 := K3.out.lt; omega)
            have hM5 := (M4.out.below C5.out).to o5 (fun e => by have h1 := G5.out; have h2 := M3.out.lt; omega)
            refine wpAnyH_ready (rs := [6]) (by kernel_rfl) (by simp) ?_
            refine AllReadyH.cons rfl (fun K1 hK => ?_) AllReadyH.nil
            go_simp
            try go_wp2_with fail
            refine hK.out _ _ ?_ (fun hHeld => ?_)
            · exact ⟨hK5.cell (j := 0) rfl, hK5.cell (j := 1) rfl, hM5.cell (j := 0) rfl⟩
            clear hK K1
            try simp only [List.getElem_toArray]
            try simp only [List.getElem_cons_succ]
            try simp only [List.getElem_cons_zero]
            try simp only [Act.put]
            try simp only [List.setIfInBounds_toArray]
            try simp only [List.set_cons_succ]
            try simp only [List.set_cons_zero]
            refine wpAnyH_done (by kernel_rfl) ?_ _
            refine NoPanic.normal ?_
            clear z0 z1 z2 z3 z4 e0 e1 e2 e3 e4 hK5 hM5 o5
            go_wp2_with fail
            go_meet
            exact ⟨_, V3.heap.size, xa, xn, xc, ya, yn, yc, Vd, Ud, rfl, by simp, AF.out⟩
        case rest =>
          obtain ⟨V, gb, xa, xn, xc, ya, yn, yc, Vd, Ud, rfl, rfl, hX⟩ := hcut
          have X5 := hid hX
          have hb5 := hX.bel
          have K5 := hid (K3.out.below hb5)
          have R5 := hid (R3.out.below hb5)
          have D5 := hid (D3.out.below hb5)
          have M5 := hid (M3.out.below hb5)
          have B5 := hid (B3.out.trans ((hb5).mono B3.out.size))
          have HLV : Hid (w.heap.size + 1 < V3.heap.size) := R3.out.lt
          have HGB : Hid (w.heap.size + 1 < gb) := by have h1 := X5.out.lo; have h2 := R3.out.lt; show _ < _; omega
          clear hX hb5 K3 K4 R3 R4 D3 D4 M3 M4 B3 B4
          have m1 := M5.out.cell (j := 1) rfl
          by_cases hr : mr = 0
          · subst hr
            have HSR0 : Hid (stR d = some ([], [])) := HSR.out
            have HC0 : Hid (stC d = 0) := by show _ = _; rw [HSS.out ([], []) HM.out HSR0.out, if_pos okT_nil]
            have HST : Hid (∀ v, Only (fun y => y = w.heap.size + 1) V v → StR v (fun _ => True) xa xn xc ya yn yc none 0 0 none 0 0 d ([], [])) := fun v ho => ⟨(X5.out.own.to ho (fun y hy e => by have h1 := (X5.out.own.lt hy).1; have h2 := HLV.out; omega)).dk (fun _ _ => trivial), (stR_nil v).nr, (stR_nil v).ir⟩
            have X5B := hid X5.out.box
            have s0 := X5B.out.cell (j := 0) rfl
            have s1 := X5B.out.cell (j := 1) rfl
            have s2 := X5B.out.cell (j := 2) rfl
            have s3 := X5B.out.cell (j := 3) rfl
            have s4 := X5B.out.cell (j := 4) rfl
            have hne : ¬ gb = w.heap.size + 1 := by have := HGB.out; omega
            have hne' : ¬ w.heap.size + 1 = gb := fun e => hne e.symm
            have r0 := R5.out.cell (j := 0) rfl
            have r1 := R5.out.cell (j := 1) rfl
            have r2 := R5.out.cell (j := 2) rfl
            have r3 := R5.out.cell (j := 3) rfl
            have r4 := R5.out.cell (j := 4) rfl
            have f0 := R5.out.free 0
            have f1 := R5.out.free 1
            have f2 := R5.out.free 2
            have f3 := R5.out.free 3
            have f4 := R5.out.free 4
            have RF := hid (((((R5.out.set 0 (.slice xa xn xc)).set 1 (.slice ya yn yc)).set 2 (.int .i64 mg)).set 3 (.slice none 0 0)).set 4 (.slice none 0 0))
            have oF : Hid (Only (fun y => y = w.heap.size + 1) V (((((V.setCell ⟨w.heap.size + 1, 0, none⟩ (.slice xa xn xc)).setCell ⟨w.heap.size + 1, 1, none⟩ (.slice ya yn yc)).setCell ⟨w.heap.size + 1, 2, none⟩ (.int .i64 mg)).setCell ⟨w.heap.size + 1, 3, none⟩ (.slice none 0 0)).setCell ⟨w.heap.size + 1, 4, none⟩ (.slice none 0 0))) := (((((only_set (R := fun y => y = w.heap.size + 1) (p := ⟨w.heap.size + 1, 0, none⟩) rfl _).trans (only_set (R := fun y => y = w.heap.size + 1) (p := ⟨w.heap.size + 1, 1, none⟩) rfl _)).trans (only_set (R := fun y => y = w.heap.size + 1) (p := ⟨w.heap.size + 1, 2, none⟩) rfl _)).trans (only_set (R := fun y => y = w.heap.size + 1) (p := ⟨w.heap.size + 1, 3, none⟩) rfl _)).trans (only_set (R := fun y => y = w.heap.size + 1) (p := ⟨w.heap.size + 1, 4, none⟩) rfl _))
            have BF := hid (B5.out.trans (oF.out.below B5.out.size (fun y hy e => by omega)))
            go_wp2
            try simp only [Exit.inBlock, Exit.then]
            refine bodyPost_ret (v := .tuple #[.agg #[.slice xa xn xc, .slice ya yn yc, .int .i64 mg, .slice none 0 0, .slice none 0 0], .int .i64 0]) ?_ rfl ?_
            · exact results_sto rfl _ _ (w.heap.size + 1) rfl rfl (RF.out.cell (j := 0) rfl) (RF.out.cell (j := 1) rfl) (RF.out.cell (j := 2) rfl) (RF.out.cell (j := 3) rfl) (RF.out.cell (j := 4) rfl)
            · exact HY.out _ ([], []) xa xn xc ya yn yc none 0 0 none 0 0 BF.out HC0.out HSR0.out (HST.out _ oF.out)
          · exact absurd Q4.out hr
      · exact absurd Q3.out hm
open Go.RowKit
set_option linter.unusedVariables false
def ScnPost (n : Int) (w : World) (e : Ending) (w' : World) : Prop := Below w.heap.size w w' ∧ ∃ xa xn xc ya yn yc na nn nc pa pn pc, e = .returned (.tuple #[.agg #[.slice xa xn xc, .slice ya yn yc, .int .i64 (snG n), .slice na nn nc, .slice pa pn pc], .bool (decide (snOk n))]) ∧ StR w' (fun _ => True) xa xn xc ya yn yc na nn nc pa pn pc (snX n) ([], [])
theorem scn_no {n : Int} {w w' : World} (h : ¬ snOk n) (hb : Below w.heap.size w w') : ScnPost n w (.returned (.tuple #[.agg #[.slice none 0 0, .slice none 0 0, .int .i64 0, .slice none 0 0, .slice none 0 0], .bool false])) w' := by
  refine ⟨hb, none, 0, 0, none, 0, 0, none, 0, 0, none, 0, 0, ?_, ?_⟩
  · rw [snG, if_neg h, decide_eq_false h]
  · rw [snX, if_neg h]
    exact stR_nil _
theorem rw_ne {v : World} {S : Nat → Prop} {x : Value} {n g : Nat} {xs ys : List Value} {T : TypeId} (h : Rw v S x n xs) (hne : 0 < n → ∃ (j : Nat) (u : Value), xs[j]? = some u ∧ u ∉ ys) (hg : Bk v g T ys) : Rw v (fun y => y ≠ g) x n xs := by
  obtain ⟨a, c, h1, h2, h3, h4, hn, h5⟩ := h
  refine ⟨a, c, h1, h2, h3, h4, hn, fun hp => ?_⟩
  obtain ⟨b, off, h6, h7, h8, h9⟩ := h5 hp
  refine ⟨b, off, h6, h7, fun e => ?_, h9⟩
  obtain ⟨j, u, hu, hy⟩ := hne hp
  have hc := h9 j u hu
  rw [e] at hc
  exact hy (List.mem_of_getElem? (bk_back hg hc))
theorem dwr_small (n : Int) : smallD (dwrD (sn0 n) 1 snM) := ⟨fun i hi => (sn0_small n).1 i hi, fun i hi => by
    have h0 : i = 0 := by simp [dwrD, sn0] at hi; omega
    subst h0
    show snM.length ≤ _
    rw [snM_len]; decide⟩
theorem str_off {v : World} {S : Nat → Prop} {xa : Option Addr} {xn xc : Nat} {ya : Option Addr} {yn yc : Nat} {na : Option Addr} {nn nc : Nat} {pa : Option Addr} {pn pc g : Nat} {T : TypeId} {n : Int} (hn : 2 ≤ n ∧ n ≤ 400) (h : StR v S xa xn xc ya yn yc na nn nc pa pn pc (snD n) ([], [])) (hg : Bk v g T [.slice none 0 0, .slice none 0 0, .int .i64 0, .slice none 0 0, .slice none 0 0]) : StR v (fun y => y ≠ g) xa xn xc ya yn yc na nn nc pa pn pc (snD n) ([], []) := by
  obtain ⟨⟨⟨V, v1, v2, v3⟩, ⟨W, w1, w2, w3⟩⟩, ⟨VN, n1, n2⟩, h3⟩ := h
  have hl : (snD n).sh.length = n.toNat := by simp [snD]
  refine ⟨⟨⟨V, v1, rw_ne v2 (fun _ => ⟨1, uAt V 1, ?_, ?_⟩) hg, fun i hi => ⟨rw_ne (v3 i hi).1 (fun hp => ⟨0, .int .u8 (zAt (shAt (snD n).sh i) 0), ?_, ?_⟩) hg, (v3 i hi).2⟩⟩, ⟨W, w1, rw_ne w2 (fun hp => absurd hp (by simp [snD])) hg, fun i hi => by simp [snD] at hi⟩⟩, ⟨VN, n1, rw_ne n2.1 (fun hp => absurd hp (by simp)) hg, fun i hi => by simp at hi⟩, rw_ne h3 (fun hp => absurd hp (by simp)) hg⟩
  · have : 1 < V.length := by rw [v1, hl]; omega
    simp [uAt, this]
  · have h4 := v3 1 (by rw [hl]; omega)
    rw [sn_at1 hn] at h4
    obtain ⟨a, c, e, _⟩ := h4.1
    rw [e, snM_len]
    simp
  · have : 0 < (shAt (snD n).sh i).length := hp
    simp [zAt, this]
  · simp
set_option maxHeartbeats 16000000 in
set_option maxRecDepth 100000 in
theorem specStoreNew_any (n : Int) (w : World) :
    Calls Tryz.prog 6 #[.int .i64 n] w fun e w' => ScnPost n w e w' := by
  have B0 : Hid (Below w.heap.size w (w.alloc (.cells #[.slice none 0 0, .slice none 0 0, .int .i64 0, .slice none 0 0, .slice none 0 0] 31))) := below_new (Below.refl _ _)
  have K0 := hid (Bk.new w 31 [.slice none 0 0, .slice none 0 0, .int .i64 0, .slice none 0 0, .slice none 0 0])
  by_cases hn : 2 ≤ n ∧ n ≤ 400
  · have HN := hid hn
    have HD : Hid (∀ v : World, Calls Tryz.prog 31 #[.int .i64 n] v fun e w' => ∃ sa sn sc da dn dc V U, e = .returned (.tuple #[.agg #[.slice sa sn sc, .slice da dn dc], .bool true]) ∧ DO w' v.heap.size (.slice sa sn sc) V (.slice da dn dc) U (sn0 n) ∧ Below v.heap.size v w') := fun v => by
      have h := specDiskNew_any n v
      rw [dn_some hn] at h
      exact h
    have HMB : Hid (∀ v : World, Calls Tryz.prog 32 #[.agg #[.int .i64 1, .int .i64 0]] v fun e w' => ∃ va vc, e = .returned (.tuple #[.slice va 512 vc, .bool true]) ∧ Rd w' va 512 vc snM ∧ Below v.heap.size v w') := fun v => by
      refine (specMetaBytes_any 1 0 v).mono ?_
      rintro e w' ⟨hb, ⟨h, -⟩ | ⟨x, zs, h, rfl, hO⟩⟩
      · rw [mtBytes, if_pos (by decide)] at h; cases h
      · rw [mtBytes, if_pos (by decide)] at h
        have hz : snM = zs := Option.some.inj h
        subst hz
        obtain ⟨a2, c2, rfl, hR, -⟩ := hO.rd (byte_at (mtFull_byte (by decide) (by decide))) (by rw [snM_len]; omega)
        exact ⟨a2, c2, by rw [snM_len], by rw [snM_len] at hR; exact hR, hb⟩
    clear hn
    go_enter Tryz.func6, Tryz.ntmps6
    go_wp2_with fail
    refine (HD.out _).mono ?_
    rintro e w1 ⟨sa, sn, sc, da, dn, dc, Vn, Un, rfl, hO, hb⟩
    have hbn := below_new (o := .cells #[.slice sa sn sc, .slice da dn dc] 25) (w := w1) (Below.refl _ _)
    have hb1 := hb.trans (hbn.mono hb.size)
    have B1 := hid (B0.out.trans (hb1.mono B0.out.size))
    have K1 := hid (K0.out.below hb1)
    have K1D := hid (Bk.new w1 25 [.slice sa sn sc, .slice da dn dc])
    have D1 := hid (hO.below hbn)
    have HBD : Hid (w.heap.size < w1.heap.size) := Nat.lt_of_lt_of_le K0.out.lt hb.size
    have HLEN : Hid (sn ≤ 1048576 ∧ dn ≤ 1048576) := by
      have h1 := (D1.out.dk (S := fun _ => True) (fun _ _ => trivial)).hs.len.1
      have h2 := (D1.out.dk (S := fun _ => True) (fun _ _ => trivial)).hd.len.1
      have h3 := HN.out
      show _ ∧ _
      rw [h1, h2]
      simp [sn0]
      omega
    clear hb hO hbn hb1 HD B0 K0
    go_wp2_with fail
    refine (HMB.out _).mono ?_
    generalize hU : w1.alloc (.cells #[.slice sa sn sc, .slice da dn dc] 25) = U at *
    clear hU
    generalize w1.heap.size = bd at *
    rintro e w2 ⟨va, vc, rfl, hR, hb⟩
    have B2 := hid (B1.out.trans (hb.mono B1.out.size))
    have K2 := hid (K1.out.below hb)
    have K2D := hid (K1D.out.below hb)
    have D2 := hid (D1.out.below hb)
    have HR2 := hid hR
    have HDW : Hid (Calls Tryz.prog 33 #[.agg #[.slice sa sn sc, .slice da dn dc], .int .i64 1, .slice va 512 vc] w2 fun e w' => ∃ sa sn sc da dn dc V U, e = .returned (.tuple #[.agg #[.slice sa sn sc, .slice da dn dc], .bool true]) ∧ DO w' w2.heap.size (.slice sa sn sc) V (.slice da dn dc) U (dwrD (sn0 n) 1 snM) ∧ Below w2.heap.size w2 w') := by
      have h := specDiskWrite_any (fun _ => True) sa sn sc da dn dc (sn0 n) 1 va 512 vc snM w2 (D2.out.dk (fun _ _ => trivial)) (sn0_small n) HLEN.out.1 HLEN.out.2 HR2.out (by decide)
      rw [snW_some HN.out] at h
      exact h
    clear hb hR HMB B1 K1 K1D D1 D2 HR2 HLEN
    have c0 := K2D.out.cell (j := 0) rfl
    have c1 := K2D.out.cell (j := 1) rfl
    go_wp2_with fail
    refine HDW.out.mono ?_
    rintro e w3 ⟨ha, hn, hc, ga, gn, gc, V3', U3, rfl, hO, hb⟩
    have B3 := hid (B2.out.trans (hb.mono B2.out.size))
    have K3 := hid (K2.out.below hb)
    have K3D := hid (K2D.out.below hb)
    have hbd : bd < w2.heap.size := K2D.out.lt
    have ho : Only (fun y => y = bd) w3 ((w3.setCell ⟨bd, 0, none⟩ (.slice ha hn hc)).setCell ⟨bd, 1, none⟩ (.slice ga gn gc)) := ((only_set (R := fun y => y = bd) (p := ⟨bd, 0, none⟩) rfl _).trans (only_set (R := fun y => y = bd) (p := ⟨bd, 1, none⟩) rfl _))
    have D3 := hid (hO.to ho (fun y hy e => by have := (hO.lt hy).1; omega))
    have B4 := hid (B3.out.trans (ho.below B3.out.size (fun y h1 e => by have := HBD.out; omega)))
    have K4 := hid (K3.out.to ho (fun e => by have := HBD.out; omega))
    have K4D := hid ((K3D.out.set 0 (.slice ha hn hc)).set 1 (.slice ga gn gc))
    have HL : Hid (hn ≤ 1048576 ∧ gn ≤ 1048576) := by
      have h1 := (D3.out.dk (S := fun _ => True) (fun _ _ => trivial)).hs.len.1
      have h2 := (D3.out.dk (S := fun _ => True) (fun _ _ => trivial)).hd.len.1
      have h3 := HN.out
      show _ ∧ _
      rw [h1, h2]
      simp [dwrD, sn0]
      omega
    have HDS : Hid (Calls Tryz.prog 35 #[.agg #[.slice ha hn hc, .slice ga gn gc]] ((w3.setCell ⟨bd, 0, none⟩ (.slice ha hn hc)).setCell ⟨bd, 1, none⟩ (.slice ga gn gc)) fun e w' => DkPost1 (snD n) ((w3.setCell ⟨bd, 0, none⟩ (.slice ha hn hc)).setCell ⟨bd, 1, none⟩ (.slice ga gn gc)) e w') := by
      have h := specDiskSync_any (fun _ => True) ha hn hc ga gn gc (dwrD (sn0 n) 1 snM) _ (D3.out.dk (fun _ _ => trivial)) (dwr_small n) HL.out.1 HL.out.2
      rw [sn_sync HN.out] at h
      exact h
    clear hb hO ho c0 c1 HDW B2 K2 K2D B3 K3 D3 hbd HL
    have d0 := K3D.out.cell (j := 0) rfl
    have d1 := K3D.out.cell (j := 1) rfl
    have f0 := K3D.out.free 0
    have f1 := K3D.out.free 1
    have c0 := K4D.out.cell (j := 0) rfl
    have c1 := K4D.out.cell (j := 1) rfl
    go_wp2_with fail
    refine HDS.out.mono ?_
    generalize ((w3.setCell ⟨bd, 0, none⟩ (.slice ha hn hc)).setCell ⟨bd, 1, none⟩ (.slice ga gn gc)) = U4 at *
    rintro e w5 ⟨ea, en, ec, fa, fn, fc, V5', U5, rfl, hO, hb⟩
    have B5 := hid (B4.out.trans (hb.mono B4.out.size))
    have K5 := hid (K4.out.below hb)
    have HL : Hid (en ≤ 1048576 ∧ fn ≤ 1048576) := by
      have h1 := (hO.dk (S := fun _ => True) (fun _ _ => trivial)).hs.len.1
      have h2 := (hO.dk (S := fun _ => True) (fun _ _ => trivial)).hd.len.1
      have h3 := HN.out
      show _ ∧ _
      rw [h1, h2]
      simp [snD]
      omega
    have HSO : Hid (Calls Tryz.prog 34 #[.agg #[.slice ea en ec, .slice fa fn fc]] w5 fun e w' => ∃ xa xn xc ya yn yc na nn nc pa pn pc, e = .returned (.tuple #[.agg #[.slice xa xn xc, .slice ya yn yc, .int .i64 1, .slice na nn nc, .slice pa pn pc], .int .i64 0]) ∧ StR w' (fun _ => True) xa xn xc ya yn yc na nn nc pa pn pc (snD n) ([], []) ∧ Below w5.heap.size w5 w') := by
      refine (specStoreOpen0_any (fun _ => True) ea en ec fa fn fc (snD n) w5 (hO.dk (fun _ _ => trivial)) (snD_small HN.out) (snD_ok HN.out) (by have h1 := (hO.dk (S := fun _ => True) (fun _ _ => trivial)).hd.len.1; rw [h1]; simp [snD]) (by rw [sn_best HN.out]; decide) (by rw [sn_best HN.out]) HL.out.1 HL.out.2).mono ?_
      rintro e w' ⟨hb, xa, xn, xc, ya, yn, yc, na, nn, nc, pa, pn, pc, rfl, h1⟩
      have hg := sn_gen HN.out
      rw [hg.2.1, hg.2.2] at h1
      refine ⟨xa, xn, xc, ya, yn, yc, na, nn, nc, pa, pn, pc, ?_, h1, hb⟩
      rw [hg.1, sn_code HN.out]
    clear hb hO HL HDS B4 K4 K3D K4D c0 c1 d0 d1 f0 f1
    go_wp2_with fail
    refine HSO.out.mono ?_
    rintro e w6 ⟨xa, xn, xc, ya, yn, yc, na, nn, nc, pa, pn, pc, rfl, hR, hb⟩
    have hb6 := below_new (o := .cells #[.slice xa xn xc, .slice ya yn yc, .int .i64 1, .slice na nn nc, .slice pa pn pc] 31) (w := w6) (Below.refl _ _)
    have R6 := hid ((str_off HN.out hR (K5.out.below hb)).below hb6)
    have hb7 := hb.trans (hb6.mono hb.size)
    have B6 := hid (B5.out.trans (hb7.mono B5.out.size))
    have K6 := hid (K5.out.below hb7)
    have K6S := hid (Bk.new w6 31 [.slice xa xn xc, .slice ya yn yc, .int .i64 1, .slice na nn nc, .slice pa pn pc])
    have hne : ¬ w.heap.size = w6.heap.size := by have h1 := K5.out.lt; have h2 := hb.size; omega
    have hne' : ¬ w6.heap.size = w.heap.size := fun e => hne e.symm
    clear hR hb hb6 hb7 HSO B5 K5
    have s0 := K6S.out.cell (j := 0) rfl
    have s1 := K6S.out.cell (j := 1) rfl
    have s2 := K6S.out.cell (j := 2) rfl
    have s3 := K6S.out.cell (j := 3) rfl
    have s4 := K6S.out.cell (j := 4) rfl
    have r0 := K6.out.cell (j := 0) rfl
    have r1 := K6.out.cell (j := 1) rfl
    have r2 := K6.out.cell (j := 2) rfl
    have r3 := K6.out.cell (j := 3) rfl
    have r4 := K6.out.cell (j := 4) rfl
    have f0 := K6.out.free 0
    have f1 := K6.out.free 1
    have f2 := K6.out.free 2
    have f3 := K6.out.free 3
    have f4 := K6.out.free 4
    have KF := hid (((((K6.out.set 0 (.slice xa xn xc)).set 1 (.slice ya yn yc)).set 2 (.int .i64 1)).set 3 (.slice na nn nc)).set 4 (.slice pa pn pc))
    have ho : Only (fun y => y = w.heap.size) (w6.alloc (.cells #[.slice xa xn xc, .slice ya yn yc, .int .i64 1, .slice na nn nc, .slice pa pn pc] 31)) ((((((w6.alloc (.cells #[.slice xa xn xc, .slice ya yn yc, .int .i64 1, .slice na nn nc, .slice pa pn pc] 31)).setCell ⟨w.heap.size, 0, none⟩ (.slice xa xn xc)).setCell ⟨w.heap.size, 1, none⟩ (.slice ya yn yc)).setCell ⟨w.heap.size, 2, none⟩ (.int .i64 1)).setCell ⟨w.heap.size, 3, none⟩ (.slice na nn nc)).setCell ⟨w.heap.size, 4, none⟩ (.slice pa pn pc)) := (((((only_set (R := fun y => y = w.heap.size) (p := ⟨w.heap.size, 0, none⟩) rfl _).trans (only_set (R := fun y => y = w.heap.size) (p := ⟨w.heap.size, 1, none⟩) rfl _)).trans (only_set (R := fun y => y = w.heap.size) (p := ⟨w.heap.size, 2, none⟩) rfl _)).trans (only_set (R := fun y => y = w.heap.size) (p := ⟨w.heap.size, 3, none⟩) rfl _)).trans (only_set (R := fun y => y = w.heap.size) (p := ⟨w.heap.size, 4, none⟩) rfl _))
    have HFIN : Hid (ScnPost n w (.returned (.tuple #[.agg #[.slice xa xn xc, .slice ya yn yc, .int .i64 1, .slice na nn nc, .slice pa pn pc], .bool true])) ((((((w6.alloc (.cells #[.slice xa xn xc, .slice ya yn yc, .int .i64 1, .slice na nn nc, .slice pa pn pc] 31)).setCell ⟨w.heap.size, 0, none⟩ (.slice xa xn xc)).setCell ⟨w.heap.size, 1, none⟩ (.slice ya yn yc)).setCell ⟨w.heap.size, 2, none⟩ (.int .i64 1)).setCell ⟨w.heap.size, 3, none⟩ (.slice na nn nc)).setCell ⟨w.heap.size, 4, none⟩ (.slice pa pn pc))) := by
      refine ⟨B6.out.trans (ho.below B6.out.size (fun y hy e => by omega)), xa, xn, xc, ya, yn, yc, na, nn, nc, pa, pn, pc, ?_, ?_⟩
      · rw [snG, if_pos (show snOk n from HN.out), decide_eq_true (show snOk n from HN.out)]
      · rw [snX, if_pos (show snOk n from HN.out)]
        have hq := R6.out
        exact ⟨(hq.dk.to ho (fun b hb _ e => hb e)).mono (fun _ _ _ => trivial), (hq.nr.to ho (fun b hb _ e => hb e)).mono (fun _ _ _ => trivial), Rw.mono (hq.ir.to ho (fun b hb _ e => hb e)) (fun _ _ _ => trivial)⟩
    clear ho
    go_wp2
    try simp only [Exit.inBlock, Exit.then]
    refine bodyPost_ret (v := .tuple #[.agg #[.slice xa xn xc, .slice ya yn yc, .int .i64 1, .slice na nn nc, .slice pa pn pc], .bool true]) ?_ rfl ?_
    · exact results_sto rfl _ _ w.heap.size rfl rfl (KF.out.cell (j := 0) rfl) (KF.out.cell (j := 1) rfl) (KF.out.cell (j := 2) rfl) (KF.out.cell (j := 3) rfl) (KF.out.cell (j := 4) rfl)
    · exact HFIN.out
  · have HN : Hid (¬ snOk n) := hn
    have HD : Hid (∀ v : World, Calls Tryz.prog 31 #[.int .i64 n] v fun e w' => ∃ sa sn sc da dn dc V U, e = .returned (.tuple #[.agg #[.slice sa sn sc, .slice da dn dc], .bool false]) ∧ DO w' v.heap.size (.slice sa sn sc) V (.slice da dn dc) U emD ∧ Below v.heap.size v w') := fun v => by
      have h := specDiskNew_any n v
      rw [dnV, if_neg hn] at h
      exact h
    clear hn
    go_enter Tryz.func6, Tryz.ntmps6
    go_wp2_with fail
    refine (HD.out _).mono ?_
    rintro e w1 ⟨sa, sn, sc, da, dn, dc, Vn, Un, rfl, hO, hb⟩
    have hbn := below_new (o := .cells #[.slice sa sn sc, .slice da dn dc] 25) (w := w1) (Below.refl _ _)
    have hb1 := hb.trans (hbn.mono hb.size)
    have B1 := hid (B0.out.trans (hb1.mono B0.out.size))
    have K1 := hid (K0.out.below hb1)
    clear hb hO hbn hb1 HD B0 K0
    have r0 := K1.out.cell (j := 0) rfl
    have r1 := K1.out.cell (j := 1) rfl
    have r2 := K1.out.cell (j := 2) rfl
    have r3 := K1.out.cell (j := 3) rfl
    have r4 := K1.out.cell (j := 4) rfl
    have f0 := K1.out.free 0
    have f1 := K1.out.free 1
    have f2 := K1.out.free 2
    have f3 := K1.out.free 3
    have f4 := K1.out.free 4
    have KF := hid (((((K1.out.set 0 (.slice none 0 0)).set 1 (.slice none 0 0)).set 2 (.int .i64 0)).set 3 (.slice none 0 0)).set 4 (.slice none 0 0))
    have ho : Only (fun y => y = w.heap.size) (w1.alloc (.cells #[.slice sa sn sc, .slice da dn dc] 25)) ((((((w1.alloc (.cells #[.slice sa sn sc, .slice da dn dc] 25)).setCell ⟨w.heap.size, 0, none⟩ (.slice none 0 0)).setCell ⟨w.heap.size, 1, none⟩ (.slice none 0 0)).setCell ⟨w.heap.size, 2, none⟩ (.int .i64 0)).setCell ⟨w.heap.size, 3, none⟩ (.slice none 0 0)).setCell ⟨w.heap.size, 4, none⟩ (.slice none 0 0)) := (((((only_set (R := fun y => y = w.heap.size) (p := ⟨w.heap.size, 0, none⟩) rfl _).trans (only_set (R := fun y => y = w.heap.size) (p := ⟨w.heap.size, 1, none⟩) rfl _)).trans (only_set (R := fun y => y = w.heap.size) (p := ⟨w.heap.size, 2, none⟩) rfl _)).trans (only_set (R := fun y => y = w.heap.size) (p := ⟨w.heap.size, 3, none⟩) rfl _)).trans (only_set (R := fun y => y = w.heap.size) (p := ⟨w.heap.size, 4, none⟩) rfl _))
    have HFIN : Hid (ScnPost n w (.returned (.tuple #[.agg #[.slice none 0 0, .slice none 0 0, .int .i64 0, .slice none 0 0, .slice none 0 0], .bool false])) ((((((w1.alloc (.cells #[.slice sa sn sc, .slice da dn dc] 25)).setCell ⟨w.heap.size, 0, none⟩ (.slice none 0 0)).setCell ⟨w.heap.size, 1, none⟩ (.slice none 0 0)).setCell ⟨w.heap.size, 2, none⟩ (.int .i64 0)).setCell ⟨w.heap.size, 3, none⟩ (.slice none 0 0)).setCell ⟨w.heap.size, 4, none⟩ (.slice none 0 0))) := scn_no HN.out (B1.out.trans (ho.below B1.out.size (fun y hy e => by omega)))
    clear ho
    go_wp2
    try simp only [Exit.inBlock, Exit.then]
    refine bodyPost_ret (v := .tuple #[.agg #[.slice none 0 0, .slice none 0 0, .int .i64 0, .slice none 0 0, .slice none 0 0], .bool false]) ?_ rfl ?_
    · exact results_sto rfl _ _ w.heap.size rfl rfl (KF.out.cell (j := 0) rfl) (KF.out.cell (j := 1) rfl) (KF.out.cell (j := 2) rfl) (KF.out.cell (j := 3) rfl) (KF.out.cell (j := 4) rfl)
    · exact HFIN.out
open Go.RowKit
set_option linter.unusedVariables false
theorem sn_bounds (n : Int) : smallD (snX n) ∧ dkTot (snX n) ≤ 900000 := by
  unfold snX
  split
  · rename_i h
    have h1 := st_bounds (snD_small h)
    rw [(sn_gen h).2.1] at h1
    exact ⟨h1.1, h1.2.1⟩
  · exact ⟨⟨fun i hi => by simp at hi, fun i hi => by simp at hi⟩, Nat.zero_le _⟩
set_option maxHeartbeats 16000000 in
set_option maxRecDepth 20000 in
theorem lawStoreNew_walk (n : Int) (w : World) (_hw : (Lit.int .i64 n).wf = true) (he : Err w 0) (he2 : Err w 1) (he3 : Err w 3) (_e4 : Err w 2) (_l1 : 0 < w.heap.size) (_l2 : 1 < w.heap.size) (_l3 : 3 < w.heap.size) (_l4 : 2 < w.heap.size) :
    Calls Tryz.prog 3 #[.int .i64 n] w fun e w' => e = .returned (.bool true) ∧ Below w.heap.size w w' := by
  have HE := hid he
  have HE2 := hid he2
  have HE3 := hid he3
  clear he he2 he3 _hw _e4 _l1 _l2 _l3 _l4
  have HSP : Hid (∀ (v : World), Calls Tryz.prog 6 #[.int .i64 n] v fun e w' => ∃ Axa Axn Axc Aya Ayn Ayc Ana Ann Anc Apa Apn Apc, e = .returned (.tuple #[.agg #[.slice Axa Axn Axc, .slice Aya Ayn Ayc, .int .i64 (snG n), .slice Ana Ann Anc, .slice Apa Apn Apc], .bool (decide (snOk n))]) ∧ StR w' (fun y => y < w'.heap.size) Axa Axn Axc Aya Ayn Ayc Ana Ann Anc Apa Apn Apc (snX n) ([], []) ∧ Below v.heap.size v w') := fun v => (specStoreNew_any n v).mono (by
    rintro e w' ⟨hb, Axa, Axn, Axc, Aya, Ayn, Ayc, Ana, Ann, Anc, Apa, Apn, Apc, rfl, hR⟩
    exact ⟨Axa, Axn, Axc, Aya, Ayn, Ayc, Ana, Ann, Anc, Apa, Apn, Apc, rfl, hR.lt, hb⟩)
  have HIM : Hid (∀ (v : World), Below w.heap.size w v → Calls Tryz.prog 7 #[.int .i64 n] v fun e w' => ∃ Gxa Gxn Gxc Gya Gyn Gyc Gna Gnn Gnc Gpa Gpn Gpc VG UG VN, e = .returned (.tuple #[.agg #[.slice Gxa Gxn Gxc, .slice Gya Gyn Gyc, .int .i64 (snG n), .slice Gna Gnn Gnc, .slice Gpa Gpn Gpc], .bool (decide (snOk n))]) ∧ StO w' v.heap.size Gxa Gxn Gxc Gya Gyn Gyc Gna Gnn Gnc Gpa Gpn Gpc VG UG VN (snX n) ([], []) ∧ Below v.heap.size v w') := fun v hw => (implStoreNew_any n v (HE.out.below hw HE.out.lt) (HE2.out.below hw HE2.out.lt) (HE3.out.below hw HE3.out.lt)).mono (by
    rintro e w' ⟨hb, Gxa, Gxn, Gxc, Gya, Gyn, Gyc, Gna, Gnn, Gnc, Gpa, Gpn, Gpc, VG, UG, VN, rfl, h1⟩
    exact ⟨Gxa, Gxn, Gxc, Gya, Gyn, Gyc, Gna, Gnn, Gnc, Gpa, Gpn, Gpc, VG, UG, VN, rfl, h1, hb⟩)
  have HS2 := hid (sn_bounds n).1
  have HT2 := hid (sn_bounds n).2
  have HSK : Hid (smallK ([] : List NB)) := fun i hi => by simp at hi
  have HSL : Hid (([] : List NB).length ≤ 400) := (by decide : ([] : List NB).length ≤ 400)
  have HSP2 : Hid (([] : List Int).length = ([] : List NB).length) := rfl
  clear HE HE2 HE3
  generalize snX n = dd at *
  generalize snG n = gg at *
  generalize decide (snOk n) = cd at *
  generalize hss : (([], []) : LS) = ss at *
  have HSK : Hid (smallK ss.1) := by rw [← hss]; exact HSK.out
  have HSL : Hid (ss.1.length ≤ 400) := by rw [← hss]; exact HSL.out
  have HSP2 : Hid (ss.2.length = ss.1.length) := by rw [← hss]; exact HSP2.out
  clear hss
  have hcd : (cd != cd) = false := by simp
  go_enter Tryz.func3, Tryz.ntmps3
  go_wp2_with fail
  refine (HSP.out _).mono ?_
  rintro e w3 ⟨Axa, Axn, Axc, Aya, Ayn, Ayc, Ana, Ann, Anc, Apa, Apn, Apc, rfl, hO, hb⟩
  have hb2 := bt5 hb (below_new (o := .cells #[.slice Axa Axn Axc, .slice Aya Ayn Ayc, .int .i64 gg, .slice Ana Ann Anc, .slice Apa Apn Apc] 31) (w := w3) (Below.refl _ _))
  have B3 := hid hb2
  have A3 := hid (StA.new (g := gg) hO)
  have HWA : Hid (w.heap.size ≤ w3.heap.size) := hb.size
  clear hb hb2 hO HSP
  go_wp2_with fail
  refine (HIM.out _ B3.out).mono ?_
  generalize (w3.alloc (.cells #[.slice Axa Axn Axc, .slice Aya Ayn Ayc, .int .i64 gg, .slice Ana Ann Anc, .slice Apa Apn Apc] 31)) = u3 at *
  generalize w3.heap.size = bA at *
  rintro e w6 ⟨Gxa, Gxn, Gxc, Gya, Gyn, Gyc, Gna, Gnn, Gnc, Gpa, Gpn, Gpc, VG, UG, VN, rfl, hO, hb⟩
  have hb2 := bt5 hb (below_new (o := .cells #[.slice Gxa Gxn Gxc, .slice Gya Gyn Gyc, .int .i64 gg, .slice Gna Gnn Gnc, .slice Gpa Gpn Gpc] 31) (w := w6) (Below.refl _ _))
  have B6 := hid (B3.out.trans (hb2.mono B3.out.size))
  have A6 := hid (A3.out.below hb2)
  have G6 := hid (StG.new (g := gg) hO)
  have SA : Hid (bA < u3.heap.size) := A3.out.box.lt
  have SG : Hid (u3.heap.size ≤ w6.heap.size) := hb.size
  clear hb hb2 hO A3 B3
  obtain ⟨x0, x1, x2, x3, x4⟩ := A6.out.cells
  obtain ⟨y0, y1, y2, y3, y4⟩ := G6.out.cells
  go_wp2_with fail
  refine (eqStore_same _ _ Gxa Gxn Gxc Gya Gyn Gyc Gna Gnn Gnc Gpa Gpn Gpc Axa Axn Axc Aya Ayn Ayc Ana Ann Anc Apa Apn Apc gg dd ss _ G6.out.own.rd A6.out.rd HS2.out).mono ?_
  generalize (w6.alloc (.cells #[.slice Gxa Gxn Gxc, .slice Gya Gyn Gyc, .int .i64 gg, .slice Gna Gnn Gnc, .slice Gpa Gpn Gpc] 31)) = u6 at *
  generalize w6.heap.size = bG at *
  rintro e w7 ⟨rfl, hb⟩
  have B7 := hid (B6.out.trans (hb.mono B6.out.size))
  have A7 := hid (A6.out.below hb)
  have G7 := hid (G6.out.below hb)
  clear hb B6 A6 G6 x0 x1 x2 x3 x4 y0 y1 y2 y3 y4
  obtain ⟨y0, y1, y2, y3, y4⟩ := G7.out.cells
  go_wp2_with fail
  refine (markStore_ex _ Gxa Gxn Gxc Gya Gyn Gyc Gna Gnn Gnc Gpa Gpn Gpc gg VG UG VN dd ss 1 _ G7.out.own HT2.out HSK.out (by have := HSL.out; omega) (by omega) (by omega)).mono ?_
  rintro e w12 ⟨rfl, hm, ho⟩
  have hsg : ∀ y, stb Gxa Gxn Gxc Gya Gyn Gyc Gna Gnn Gnc Gpa Gpn Gpc VG UG VN ss y → u3.heap.size ≤ y ∧ y < bG := fun y hy => G7.out.here hy
  have Q12 : Hid (StM w12 bG Gxa Gxn Gxc Gya Gyn Gyc Gna Gnn Gnc Gpa Gpn Gpc gg VG UG VN dd ss 1) := ⟨G7.out.box.to ho (fun e => absurd (hsg _ e).2 (Nat.lt_irrefl _)), hm⟩
  have B12 : Hid (Below w.heap.size w w12) := B7.out.trans (ho.below B7.out.size (fun b h1 e => by have h2 := hsg b e; have h3 := SA.out; have h4 := HWA.out; omega))
  have A12 := hid (A7.out.to ho (fun e => by have h1 := hsg _ e; have h2 := SA.out; omega) (fun y hy e => by have h1 := hsg y e; have h3 := SA.out; omega))
  clear hm ho hsg B7 A7 G7 y0 y1 y2 y3 y4
  obtain ⟨y0, y1, y2, y3, y4⟩ := Q12.out.cells
  have CH := hid (fun w h => heldStore_any Gxa Gxn Gxc Gya Gyn Gyc Gna Gnn Gnc Gpa Gpn Gpc gg VG UG VN dd ss 1 w h HT2.out HSK.out (by have := HSL.out; omega) HSP2.out (by omega) (by omega))
  have HTP : Hid (1 + stTot dd ss ≤ 4194305) := by have h1 := HT2.out; have h2 := offN_le HSK.out ss.1.length (Nat.le_refl _); have h3 := HSL.out; have h4 := HSP2.out; show _ ≤ _; unfold stTot; omega
  generalize hq : 1 + stTot dd ss = q at *
  have HQ := hid hq
  have hq0 : ¬ (q : Int) < 0 := by omega
  have hqq : ((q : Int) != (q : Int)) = false := by simp
  clear hq
  go_wp2_with fail
  refine (CH.out _ Q12.out.own).mono ?_
  rintro e w13 ⟨rfl, hb⟩
  have B13 := hid (B12.out.trans (hb.mono B12.out.size))
  have A13 := hid (A12.out.below hb)
  have Q13 := hid (Q12.out.below hb)
  clear hb B12 A12 Q12 y0 y1 y2 y3 y4
  go_wp2_with fail
  refine (HIM.out _ B13.out).mono ?_
  rintro e w15 ⟨Hxa, Hxn, Hxc, Hya, Hyn, Hyc, Hna, Hnn, Hnc, Hpa, Hpn, Hpc, VH, UH, VM, rfl, hO, hb⟩
  have hb2 := bt5 hb (below_new (o := .cells #[.slice Hxa Hxn Hxc, .slice Hya Hyn Hyc, .int .i64 gg, .slice Hna Hnn Hnc, .slice Hpa Hpn Hpc] 31) (w := w15) (Below.refl _ _))
  have B15 := hid (B13.out.trans (hb2.mono B13.out.size))
  have A15 := hid (A13.out.below hb2)
  have Q15 := hid (Q13.out.below hb2)
  have H15 := hid (StG.new (g := gg) hO)
  clear hO hb hb2 B13 A13 Q13
  obtain ⟨x0, x1, x2, x3, x4⟩ := A15.out.cells
  obtain ⟨y0, y1, y2, y3, y4⟩ := H15.out.cells
  go_wp2_with fail
  refine (eqStore_same _ _ Hxa Hxn Hxc Hya Hyn Hyc Hna Hnn Hnc Hpa Hpn Hpc Axa Axn Axc Aya Ayn Ayc Ana Ann Anc Apa Apn Apc gg dd ss _ H15.out.own.rd A15.out.rd HS2.out).mono ?_
  generalize (w15.alloc (.cells #[.slice Hxa Hxn Hxc, .slice Hya Hyn Hyc, .int .i64 gg, .slice Hna Hnn Hnc, .slice Hpa Hpn Hpc] 31)) = u15 at *
  generalize w15.heap.size = bH at *
  rintro e w16 ⟨rfl, hb⟩
  have B16 := hid (B15.out.trans (hb.mono B15.out.size))
  have Q16 := hid (Q15.out.below hb)
  clear hb B15 A15 Q15 H15 x0 x1 x2 x3 x4 y0 y1 y2 y3 y4
  obtain ⟨y0, y1, y2, y3, y4⟩ := Q16.out.cells
  go_wp2_with fail
  refine (CH.out _ Q16.out.own).mono ?_
  rintro e w17 ⟨rfl, hb⟩
  have B17 := hid (B16.out.trans (hb.mono B16.out.size))
  clear hb B16 Q16 y0 y1 y2 y3 y4
  go_wp2
  go_ret
  exact ⟨rfl, B17.out⟩
open Go.ChangeShapes Go.WideShapes Go.ChangeAt Go.RowKit
theorem trodVars_first {H : Type} {enc : TypeId × Value → H} {P : Program} {w : World} {spare : Nat → Bool} {n : String} {ns : List String} {gs : List (DataW H)} {ps : List MemPlace} (h : DataW.TrodVars enc P w spare (n :: ns) gs ps) :
    ∃ g t cs f d p ds q, gs = d :: ds ∧ P.globalNamed n = some g ∧ (P.globals[g]?).map (·.type) = some t ∧ w.var? P n = some cs ∧ DataW.trod enc P w 0 spare true f t cs.toList = some (d, p) ∧ DataW.TrodVars enc P w spare ns ds q ∧ ps = MemPlace.row ⟨g, 0, none⟩ cs.size ++ p ++ q := by
  cases gs with
  | nil => simp [DataW.TrodVars] at h
  | cons d ds =>
    obtain ⟨g, t, cs, f, p, q, h1, h2, h3, h4, hs, e⟩ := h
    exact ⟨g, t, cs, f, d, p, ds, q, rfl, h1, h2, h3, h4, hs, e⟩
theorem vars_first {H : Type} (enc : TypeId × Value → H) {P : Program} {W : World} {n : String} {ns : List String} {g : Nat} {ti : TypeId} {ms : Array (String × TypeId)} {x : Value} {ds : List (DataW H)} {q : List MemPlace} {sp : Nat → Bool}
    (hg : P.globalNamed n = some g) (ht : (P.globals[g]?).map (·.type) = some ti) (hi : P.underlying ti = some (.interface ms)) (h : W.var? P n = some #[x]) (ix : IsIface x) (hr : DataW.TrodVars enc P W sp ns ds q) :
    DataW.TrodVars enc P W sp (n :: ns) (tok enc x :: ds) (.cell g 0 :: q) :=
  ⟨g, ti, #[x], 1, [], q, hg, ht, h, trod_held hi ix 0, hr, rfl⟩
end Go.Proofs.YtmilnejacnaejaaGreatDoor
