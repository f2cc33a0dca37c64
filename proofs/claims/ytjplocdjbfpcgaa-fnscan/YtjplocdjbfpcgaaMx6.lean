/-
  spec.TreeGet, impl.TreeGet: the same.
-/
import Derived.Test.YtjplocdjbfpcgaaMx4
import Derived.Test.YtjplocdjbfpcgaaMx3
import Derived.Test.YtjplocdjbfpcgaaMx5
import Derived.Test.YtjplocdjbfpcgaaMx2
import Derived.Test.YtjplocdjbfpcgaaMx1
namespace Go.Proofs.Ytjplocdjbfpcgaa
open Go.RowKit
def getV (ns : List NB) (k : ByteArray) : Option ByteArray := if kOk k = true then fnd (alV ns) k else none
theorem okT_get {ns : List NB} {t : T} (h : okT ns = some t) : GetOk t := by
  have hf := okT_facts h
  by_cases hne : ns.length = 0
  · rw [hf.nil hne]
    exact ⟨List.Pairwise.nil, fun h => absurd rfl h, by decide⟩
  · exact full_getOk ((okT_good hne).1 h).full (pOk_asc hf.ok)
def fndF (l : List PB) (k : ByteArray) : Nat → Nat → Option ByteArray
  | 0, _ => none
  | f + 1, j => if (pAtB l j).1 = k then some (pAtB l j).2 else fndF l k f (j + 1)
theorem fndF_eq (l : List PB) (k : ByteArray) : ∀ (f j : Nat), j + f = l.length → fndF l k f j = fnd (l.drop j) k
  | 0, j, h => by rw [List.drop_eq_nil_of_le (by omega)]; rfl
  | f + 1, j, h => by
    rw [fndF, ← List.getElem_cons_drop (by omega : j < l.length), fnd, List.findSome?_cons, pAtB_lt (by omega)]
    by_cases e : l[j].1 = k
    · simp [e]
    · simp only [e, if_false]
      exact fndF_eq l k f (j + 1) (by omega)
set_option maxHeartbeats 2000000 in
theorem implTreeGet_any (S : Nat → Prop) (an : Option Addr) (nn cn : Nat) (ns : List NB) (k : ByteArray) (w : World) (hN : Nr w S (.slice an nn cn) ns) :
    Calls Try.prog 12 #[.agg #[.slice an nn cn], .string k] w fun e w' => e = .returned (gotV (getV ns k)) ∧ Below w.heap.size w w' := by
  have HN := hid hN
  have h1 := hN.len.2.1
  have h2 := hN.len.2.2
  clear hN
  have HB0 := hid (below_new (o := .cells #[.slice an nn cn] 25) (w := w) (Below.refl _ _))
  go_enter Try.func12, Try.ntmps12
  go_wp2_with fail
  refine (rootOf_any S an nn cn ns _ (HN.out.below HB0.out)).mono ?_
  generalize w.alloc (.cells #[.slice an nn cn] 25) = U at *
  rintro e w1 ⟨hpost, hb1⟩
  have HB1 : Hid (Below w.heap.size w w1) := HB0.out.trans (hb1.mono HB0.out.size)
  clear hb1
  cases hr : okT ns with
  | none =>
    rw [hr] at hpost
    have he : e = .returned (.pointer none) := hpost
    subst he
    have HR : Hid (getV ns k = none) := by
      show _ = _
      rw [getV, alV, hr]
      split <;> rfl
    clear hpost hr
    go_wp2
    go_ret2
    exact ⟨by rw [HR.out]; rfl, HB1.out⟩
  | some t =>
    rw [hr] at hpost
    obtain ⟨b, he, hL⟩ := hpost
    subst he
    have HG := hid (okT_get hr)
    have HL := hid hL
    have HR : Hid (alV ns = t.all) := by show _ = _; rw [alV, hr]
    clear hL hr
    go_wp2_with fail
    refine (implKeyOk_any k w1).mono ?_
    rintro e w2 ⟨rfl, rfl⟩
    cases hk : kOk k with
    | false =>
      have HR2 : Hid (getV ns k = none) := by show _ = _; rw [getV, hk]; rfl
      clear hk
      go_wp2
      go_ret2
      exact ⟨by rw [HR2.out]; rfl, HB1.out⟩
    | true =>
      have HR2 : Hid (getV ns k = fnd t.all k) := by show _ = _; rw [getV, hk, HR.out]; rfl
      clear hk
      go_wp2_with fail
      refine (get_any _ b t k _ HL.out HG.out).mono ?_
      rintro e w3 ⟨rfl, hb⟩
      have HB3 := hid (Below.then' HB1.out hb (Nat.le_refl _))
      clear hb
      generalize fnd t.all k = o at *
      cases o with
      | none =>
        simp only [gotV]
        go_wp2
        go_ret2
        exact ⟨by rw [HR2.out]; rfl, HB3.out⟩
      | some v =>
        simp only [gotV]
        go_wp2
        go_ret2
        exact ⟨by rw [HR2.out]; rfl, HB3.out⟩
set_option maxHeartbeats 4000000 in
theorem specTreeGet_any (ns : List NB) (hlen : ns.length ≤ 1048576) (hsm : smallN ns) (S : Nat → Prop) (an : Option Addr) (nn cn : Nat) (k : ByteArray) (w : World) (hN : Nr w S (.slice an nn cn) ns) :
    Calls Try.prog 14 #[.agg #[.slice an nn cn], .string k] w fun e w' => e = .returned (gotV (getV ns k)) ∧ Below w.heap.size w w' := by
  have h1 := hN.len.2.1
  have h2 := hN.len.2.2
  have HB0 := hid (below_new (o := .cells #[.slice an nn cn] 25) (w := w) (Below.refl _ _))
  have K0 := hid (Bk.new w 25 [.slice an nn cn])
  have H0 := hid (hN.below HB0.out)
  have HLS := hid (And.intro hlen hsm)
  clear hN hlen hsm
  go_enter Try.func14, Try.ntmps14
  go_wp2_with fail
  refine (specKeyOk_any k _).mono ?_
  generalize w.alloc (.cells #[.slice an nn cn] 25) = U at *
  rintro e w1 ⟨rfl, rfl⟩
  cases hk : kOk k with
  | false =>
    have HR : Hid (getV ns k = none) := by show _ = _; rw [getV, hk]; rfl
    clear hk
    go_wp2
    go_ret2
    exact ⟨by rw [HR.out]; rfl, HB0.out⟩
  | true =>
    have HR : Hid (getV ns k = fndF (alV ns) k (alV ns).length 0) := by
      show _ = _
      rw [getV, hk, if_pos rfl, fndF_eq _ _ _ _ (by omega)]
      rfl
    clear hk
    have c0 := K0.out.cell (j := 0) rfl
    go_wp2_with fail
    refine (specTreeAll_any ns HLS.out.1 HLS.out.2 S an nn cn _ H0.out).mono ?_
    rintro e w1 ⟨v, rfl, hO, hb⟩
    obtain ⟨a, n, c, hv, hn⟩ := hO.shape'
    subst hv
    have HB1 := hid (Below.then' HB0.out hb (Nat.le_refl _))
    have HP : Hid (Pr w1 (fun _ => True) (.slice a n c) (alV ns)) := hO.pr (fun _ _ _ _ => trivial)
    have hnl : n ≤ 200 := by rw [hn.out]; exact alV_len ns
    have hnc := (Rw.len HP.out).2
    rw [← hn.out] at HR
    clear hb hO c0 H0 K0 HB0
    generalize alV ns = l at *
    go_wp2_with fail
    go_loopw [14] (fun x wr => ∃ j f : Nat, x = .int .i64 j ∧ j + f = n ∧ Hid (getV ns k = fndF l k f j) ∧ Hid (Below w.heap.size w wr) ∧ Hid (Below w1.heap.size w1 wr)) (fun x _ => n - (intOf x).toNat)
    case atStart => exact ⟨0, n, rfl, by omega, HR.out, HB1.out, Below.refl _ _⟩
    case round =>
      obtain ⟨j, f, rfl, hjf, HF, HBW, HBV⟩ := hrel
      cases f with
      | zero =>
        have hlt : ¬ (j : Int) < (n : Int) := by omega
        go_wp2
        go_ret2
        exact ⟨by rw [HF.out]; rfl, HBW.out⟩
      | succ f =>
        have hlt : (j : Int) < (n : Int) := by omega
        have hj0 : (0 : Int) ≤ (j : Int) := by omega
        have hp := HP.out.below HBV.out
        obtain ⟨b, off, hab, _, _, _⟩ := Rw.at hp (by omega)
        subst hab
        obtain ⟨d0, d1⟩ := Pr.cells hp (i := j) (by have := hn.out; omega)
        clear hp
        have HB2 := hid (HBW.out.alloc HBW.out.size (.cells #[.string (pAtB l j).1, .string (pAtB l j).2] 35))
        have HB3 := hid (HBV.out.alloc HBV.out.size (.cells #[.string (pAtB l j).1, .string (pAtB l j).2] 35))
        have HF2 := HF.out
        rw [fndF] at HF2
        by_cases e : (pAtB l j).1 = k
        · rw [if_pos e] at HF2
          have HF3 := hid HF2
          rw [e] at d0 HB2
          generalize (pAtB l j).2 = z at *
          clear HF2 HF e
          have hkk : (k.toList == k.toList) = true := by simp
          go_wp2
          go_ret2
          exact ⟨by rw [HF3.out]; rfl, HB2.out⟩
        · rw [if_neg e] at HF2
          have HF3 := hid HF2
          have hne := str_beq e
          generalize (pAtB l j).2 = z at *
          generalize (pAtB l j).1 = y at *
          clear HF2 HF e
          go_wp2
          go_roundw
          case rel => exact ⟨j + 1, f, by go_num, by omega, HF3.out, HB2.out, HB3.out⟩
          case measure => simp [intOf]; omega
end Go.Proofs.Ytjplocdjbfpcgaa
/-
  spec.Depth, impl.Depth: the same.
-/
namespace Go.Proofs.Ytjplocdjbfpcgaa
open Go.RowKit
theorem below_drewN (w : World) (q : Nat) : Below w.heap.size w (w.drewN q) := ⟨rfl, rfl, rfl, Nat.le_refl _, fun _ _ => rfl⟩
def dpV (ns : List NB) : Int := match okT ns with | none => -1 | some t => t.dpt
set_option maxHeartbeats 2000000 in
theorem implDepth_any (S : Nat → Prop) (an : Option Addr) (nn cn : Nat) (ns : List NB) (w : World) (hN : Nr w S (.slice an nn cn) ns) :
    Calls Try.prog 21 #[.agg #[.slice an nn cn]] w fun e w' => e = .returned (.int .i64 (dpV ns)) ∧ Below w.heap.size w w' := by
  have HN := hid hN
  have h1 := hN.len.2.1
  have h2 := hN.len.2.2
  clear hN
  have HB0 := hid (below_new (o := .cells #[.slice an nn cn] 25) (w := w) (Below.refl _ _))
  go_enter Try.func21, Try.ntmps21
  go_wp2_with fail
  refine (rootOf_any S an nn cn ns _ (HN.out.below HB0.out)).mono ?_
  generalize w.alloc (.cells #[.slice an nn cn] 25) = U at *
  rintro e w1 ⟨hpost, hb1⟩
  have HB1 : Hid (Below w.heap.size w w1) := HB0.out.trans (hb1.mono HB0.out.size)
  clear hb1
  cases hr : okT ns with
  | none =>
    rw [hr] at hpost
    have he : e = .returned (.pointer none) := hpost
    subst he
    have HR : Hid (dpV ns = -1) := by show _ = _; rw [dpV, hr]
    clear hpost hr
    go_wp2
    go_ret
    exact ⟨by rw [HR.out]; rfl, HB1.out⟩
  | some t =>
    rw [hr] at hpost
    obtain ⟨b, he, hL⟩ := hpost
    subst he
    have HR : Hid (dpV ns = t.dpt) := by show _ = _; rw [dpV, hr]
    have HF := hid (okT_facts hr)
    have HL := hid hL
    clear hL hr
    go_wp2_with fail
    refine (depth_any _ b t w1 HL.out (by have := HF.out.few; omega) (by have := HF.out.lv; omega)).mono ?_
    rintro e w2 ⟨rfl, q, rfl⟩
    go_wp2
    go_ret
    exact ⟨by rw [HR.out]; rfl, HB1.out.trans ((below_drewN _ q).mono HB1.out.size)⟩
end Go.Proofs.Ytjplocdjbfpcgaa
/-
  Plain facts of trees for the laws.
-/
namespace Go.Proofs.Ytjplocdjbfpcgaa
open Go.RowKit
theorem TreePost.nr {o : Option (List NB)} {w w' : World} {v : Value} (h : TRow w w' v (o.getD [])) : Nr w' (fun _ => True) v (o.getD []) := by
  obtain ⟨V, h1, _⟩ := h
  exact h1.nr (fun _ _ => trivial)
theorem RootI.alV {t : T} {l : List PB} (g : RootI t l) : alV (layT t) = l := by rw [Go.Proofs.Ytjplocdjbfpcgaa.alV, g.okT]; exact g.all
theorem RootI.dpV {t : T} {l : List PB} (g : RootI t l) : dpV (layT t) = t.dpt := by rw [Go.Proofs.Ytjplocdjbfpcgaa.dpV, g.okT]
theorem RootI.deep {t : T} {l : List PB} (g : RootI t l) : (t.dpt = 0 ↔ l.length = 0) ∧ t.dpt ≤ 13 ∧ (2 ≤ t.dpt → 2 ^ (t.dpt - 1) ≤ l.length) := by
  have hlen := pOk_len g.ok
  rcases g.good with h | h
  · have hb := full_bare h
    have hd : t.dpt = t.lv := by rw [T.dpt, hb]; rfl
    have he := g.inn.ev
    have h1 := ev_size _ _ _ he h
    have h2 := full_root h
    have h3 := T.size_pos t
    rw [g.all] at h2
    rw [hd]
    have h13 : t.lv ≤ 13 := by
      rcases Nat.lt_or_ge 13 t.lv with h | h
      · have : 2 ^ 14 ≤ 2 ^ t.lv := Nat.pow_le_pow_right (by omega) h
        omega
      · exact h
    refine ⟨⟨fun e => ?_, fun e => by omega⟩, h13, fun e => ?_⟩
    · exfalso
      rw [e] at he
      cases t
      exact he
    · obtain ⟨m, hm⟩ : ∃ m, t.lv = m + 1 := ⟨t.lv - 1, by omega⟩
      rw [hm] at h1 ⊢
      rw [Nat.pow_succ] at h1
      simp only [Nat.add_sub_cancel]
      have : 1 ≤ 2 ^ m := Nat.one_le_two_pow
      omega
  · have ha := g.all
    rw [h] at ha
    rw [h]
    have : l = [] := ha.symm
    subst this
    exact ⟨⟨fun _ => rfl, fun _ => rfl⟩, by decide, fun h => absurd h (by decide)⟩
theorem okT_root {ns : List NB} {t : T} (h : okT ns = some t) : RootI t t.all := ⟨okT_putIn h, rfl, (okT_facts h).ok⟩
end Go.Proofs.Ytjplocdjbfpcgaa
/-
  A scan: the pairs of a list in a range, from the first on or from the last on, as many as there is room for. Nothing here speaks of the program.
-/
namespace Go.Proofs.Ytjplocdjbfpcgaa
open Go.RowKit
def dirL (back : Bool) (l : List PB) : List PB := if back = true then l.reverse else l
/-- What a scan tells. -/
def scV (l : List PB) (lo hi : ByteArray) (most : Int) (back : Bool) : List PB := ((dirL back l).filter fun p => rHas lo hi p.1).take most.toNat
def scJ (l : List PB) (lo hi : ByteArray) (most : Int) (back : Bool) (j : Nat) : List PB := (((dirL back l).take j).filter fun p => rHas lo hi p.1).take most.toNat
theorem dirL_length (back : Bool) (l : List PB) : (dirL back l).length = l.length := by cases back <;> simp [dirL]
theorem dirL_at (l : List PB) (j : Nat) (h : j < l.length) : pAtB (dirL true l) j = pAtB l (l.length - 1 - j) := by
  rw [pAtB_lt (by rw [dirL_length]; exact h), pAtB_lt (by omega)]
  simp [dirL]
theorem scJ_end (l : List PB) (lo hi : ByteArray) (most : Int) (back : Bool) : scJ l lo hi most back l.length = scV l lo hi most back := by
  have e : (dirL back l).take l.length = dirL back l := List.take_of_length_le (by rw [dirL_length]; exact Nat.le_refl _)
  rw [scJ, e]
  rfl
theorem scJ_le (l : List PB) (lo hi : ByteArray) (most : Int) (back : Bool) (j : Nat) : (scJ l lo hi most back j).length ≤ l.length := by
  rw [scJ, List.length_take]
  refine Nat.le_trans (Nat.min_le_right _ _) (Nat.le_trans (List.length_filter_le _ _) ?_)
  rw [List.length_take, dirL_length]
  omega
theorem scJ_step (l : List PB) (lo hi : ByteArray) (most : Int) (back : Bool) (j : Nat) (h : j < l.length) : scJ l lo hi most back (j + 1) =
    if ((scJ l lo hi most back j).length : Int) < most ∧ rHas lo hi (pAtB (dirL back l) j).1 = true then scJ l lo hi most back j ++ [pAtB (dirL back l) j] else scJ l lo hi most back j := by
  have hj : j < (dirL back l).length := by rw [dirL_length]; exact h
  have e : (dirL back l).take (j + 1) = (dirL back l).take j ++ [pAtB (dirL back l) j] := by rw [List.take_succ_eq_append_getElem hj, pAtB_lt hj]
  unfold scJ
  rw [e, List.filter_append]
  generalize ((dirL back l).take j).filter (fun p => rHas lo hi p.1) = X
  cases hp : rHas lo hi (pAtB (dirL back l) j).1 with
  | false => simp [hp]
  | true =>
    simp only [List.filter_cons, hp, if_true, List.filter_nil, and_true, List.length_take]
    by_cases hx : X.length < most.toNat
    · rw [if_pos (by omega), List.take_of_length_le (by simp; omega), List.take_of_length_le (by omega)]
    · rw [if_neg (by omega), List.take_append_of_le_length (by omega)]
end Go.Proofs.Ytjplocdjbfpcgaa
/-
  Plain facts of trees for the laws: what is found behind a put and behind a drop.
-/
namespace Go.Proofs.Ytjplocdjbfpcgaa
open Go.RowKit
theorem fnd_cons (x : PB) (l : List PB) (k : ByteArray) : fnd (x :: l) k = if x.1 = k then some x.2 else fnd l k := by
  rw [fnd, List.findSome?_cons]
  by_cases e : x.1 = k
  · simp [e]
  · simp [e, fnd]
theorem fnd_insP (l : List PB) (p : PB) : fnd (insP l p) p.1 = some p.2 := by
  induction l with
  | nil => rw [insP_nil, fnd_cons, if_pos rfl]
  | cons x l ih =>
    cases hk : klt x.1 p.1 with
    | true => rw [insP_lt hk, fnd_cons, if_neg (klt_ne hk), ih]
    | false =>
      by_cases e : x.1 = p.1
      · rw [insP_eq e, fnd_cons, if_pos rfl]
      · rw [insP_gt hk e, fnd_cons, if_pos rfl]
theorem fnd_insP_ne (l : List PB) (p : PB) (q : ByteArray) (h : q ≠ p.1) : fnd (insP l p) q = fnd l q := by
  induction l with
  | nil => rw [insP_nil, fnd_cons, if_neg (Ne.symm h)]
  | cons x l ih =>
    cases hk : klt x.1 p.1 with
    | true => rw [insP_lt hk, fnd_cons, fnd_cons, ih]
    | false =>
      by_cases e : x.1 = p.1
      · rw [insP_eq e, fnd_cons, fnd_cons, if_neg (Ne.symm h), if_neg (by rw [e]; exact Ne.symm h)]
      · rw [insP_gt hk e, fnd_cons, if_neg (Ne.symm h)]
theorem insP_count {l : List PB} (p : PB) (ha : Asc l) : (insP l p).length = l.length + if (fnd l p.1).isSome = true then 0 else 1 := by
  induction l with
  | nil => rw [insP_nil]; rfl
  | cons x l ih =>
    obtain ⟨h1, h2⟩ := List.pairwise_cons.1 ha
    cases hk : klt x.1 p.1 with
    | true => rw [insP_lt hk, fnd_cons, if_neg (klt_ne hk), List.length_cons, ih h2, List.length_cons]; omega
    | false =>
      by_cases e : x.1 = p.1
      · rw [insP_eq e, fnd_cons, if_pos e]; rfl
      · have hlt : klt p.1 x.1 = true := by
          cases hq : klt p.1 x.1 with
          | true => rfl
          | false => exact absurd (key_eq hk hq) e
        have hn : fnd (x :: l) p.1 = none := fnd_none (fun y hy => by
          rcases List.mem_cons.1 hy with rfl | hy
          · exact e
          · exact (klt_ne (klt_trans hlt (h1 y hy))).symm)
        rw [insP_gt hk e, hn]; rfl
theorem mem_fnd {l : List PB} (ha : Asc l) {p : PB} (hp : p ∈ l) : fnd l p.1 = some p.2 := by
  induction l with
  | nil => cases hp
  | cons x l ih =>
    obtain ⟨h1, h2⟩ := List.pairwise_cons.1 ha
    rw [fnd_cons]
    rcases List.mem_cons.1 hp with rfl | hp
    · rw [if_pos rfl]
    · rw [if_neg (klt_ne (h1 p hp)), ih h2 hp]
theorem fnd_delP {l : List PB} (k : ByteArray) (ha : Asc l) : fnd (delP l k) k = none := by
  rw [← delS_eq ha]
  refine fnd_none (fun p hp => ?_)
  have := (List.mem_filter.1 hp).2
  exact of_decide_eq_true this
theorem RootI.ins {t : T} {l : List PB} {p : PB} (g : RootI t l) (hp : kOk p.1 = true ∧ vOk p.2 = true) (hl : (rootT (putF t.lv t p)).all.length ≤ 200) : RootI (rootT (putF t.lv t p)) (insP l p) := by
  obtain ⟨h1, ⟨h, h2⟩, h3⟩ := rootT_full (putF_out t.lv true t p g.inn)
  rw [g.all] at h3
  have ha : Asc (insP l p) := insP_asc (pOk_asc g.ok)
  rw [h3] at hl
  refine ⟨⟨by rw [ev_lv h _ h2]; exact h2, .inl h1, by rw [h3]; exact ha⟩, h3, pOk_of hl (fun x hx => ?_) ha⟩
  rcases insP_mem hx with rfl | hx
  · exact hp
  · exact pOk_mem g.ok hx
theorem RootI.del {t : T} {l : List PB} (g : RootI t l) (k : ByteArray) : RootI (rootD (dropF t.lv t k)) (delP l k) := by
  obtain ⟨h1, ⟨h, h2⟩, h3⟩ := rootD_out (k := k) g.inn
  rw [g.all] at h3
  exact ⟨⟨by rw [ev_lv h _ h2]; exact h2, h1.imp id (fun h => ⟨rfl, h⟩), by rw [h3]; exact delP_asc (pOk_asc g.ok)⟩, h3, pOk_del g.ok⟩
theorem rootD_lv {h : Nat} {t : T} {k : ByteArray} (g : PutIn h true t) : (rootD (dropF h t k)).lv ≤ h := by
  obtain ⟨h1, _⟩ := dropF_out h true t k g
  have he := h1.ev
  generalize dropF h t k = y at *
  obtain ⟨ps, ks⟩ := y
  have er : rootD (.mk ps ks) = if ks.length = 1 then tAt ks 0 else .mk ps ks := rfl
  rw [er]
  split
  · rename_i e
    cases h with
    | zero => exact he.elim
    | succ h =>
      rcases he with ⟨e2, _⟩ | ⟨_, e2⟩
      · subst e2; simp at e
      · rw [ev_lv h _ (e2 _ (tAt_mem (by omega)))]; omega
  · rw [ev_lv h _ he]; exact Nat.le_refl _
theorem dpt_le (t : T) : t.dpt ≤ t.lv := by
  rw [T.dpt]; split
  · exact Nat.zero_le _
  · exact Nat.le_refl _
theorem RootI.shallow {t : T} {l : List PB} (g : RootI t l) (k : ByteArray) : (rootD (dropF t.lv t k)).dpt ≤ t.dpt := by
  rcases g.good with h | h
  · have hd : t.dpt = t.lv := by rw [T.dpt, full_bare h]; rfl
    rw [hd]
    exact Nat.le_trans (dpt_le _) (rootD_lv g.inn)
  · have hl : l = [] := by rw [← g.all, h]; rfl
    subst hl
    have := (g.del k).deep.1.2 (by rw [delP_nil]; rfl)
    omega
/-- What a put gives, where it gives something. -/
structure PutF (l : List PB) (k v : ByteArray) (ms : List NB) : Prop where
  small : smallN ms ∧ ms.length ≤ 1048576
  ok : (Go.Proofs.Ytjplocdjbfpcgaa.okT ms).isSome = true
  got : getV ms k = some v
  all : (alV ms).length = l.length + if (fnd l k).isSome = true then 0 else 1
  others : ∀ i, i < l.length → (pAtB l i).1 ≠ k → getV ms (pAtB l i).1 = some (pAtB l i).2
theorem pAtB_mem {l : List PB} {i : Nat} (h : i < l.length) : pAtB l i ∈ l := by rw [pAtB_lt h]; exact List.getElem_mem h
theorem putV_facts {ns : List NB} {k v : ByteArray} {ms : List NB} (h : putV ns k v = some ms) : PutF (alV ns) k v ms ∧ kOk k = true := by
  unfold putV at h
  split at h
  · cases h
  · rename_i t ht
    split at h
    · rename_i hkv
      split at h
      · cases h
      · rename_i hl
        cases h
        have g0 := okT_root ht
        have hal : alV ns = t.all := by unfold alV; rw [ht]
        rw [hal]
        have g := g0.ins (p := (k, v)) hkv (by omega)
        have ha := pOk_asc g0.ok
        refine ⟨⟨layT_smallN g, by rw [g.okT]; rfl, ?_, ?_, fun i hi hne => ?_⟩, hkv.1⟩
        · rw [getV, if_pos hkv.1, g.alV]; exact fnd_insP _ (k, v)
        · rw [g.alV]; exact insP_count (k, v) ha
        · rw [getV, if_pos (pOk_mem g0.ok (pAtB_mem hi)).1, g.alV, fnd_insP_ne _ (k, v) _ hne]
          exact mem_fnd ha (pAtB_mem hi)
    · cases h
/-- What a drop gives, where it gives something. -/
structure DropF (l : List PB) (k : ByteArray) (d : Int) (ms : List NB) : Prop where
  small : smallN ms ∧ ms.length ≤ 1048576
  ok : (Go.Proofs.Ytjplocdjbfpcgaa.okT ms).isSome = true
  got : getV ms k = none
  all : alV ms = delS l k
  deep : dpV ms ≤ d
theorem dropV_facts {ns : List NB} {k : ByteArray} {ms : List NB} (h : dropV ns k = some ms) : DropF (alV ns) k (dpV ns) ms := by
  unfold dropV at h
  split at h
  · cases h
  · rename_i t ht
    split at h
    · rename_i hk
      cases h
      have g0 := okT_root ht
      have hal : alV ns = t.all := by unfold alV; rw [ht]
      have hdp : dpV ns = t.dpt := by unfold dpV; rw [ht]
      rw [hal, hdp]
      have g := g0.del k
      have ha := pOk_asc g0.ok
      refine ⟨layT_smallN g, by rw [g.okT]; rfl, ?_, ?_, ?_⟩
      · rw [getV, if_pos hk, g.alV]; exact fnd_delP k ha
      · rw [g.alV, delS_eq ha]
      · rw [g.dpV]; have := g0.shallow k; omega
    · cases h
/-- Dropping one pair after the other. -/
theorem okT_layT {ns : List NB} {t : T} (h : okT ns = some t) : layT t = ns := by
  by_cases hne : ns.length = 0
  · rw [(okT_facts h).nil hne, List.eq_nil_of_length_eq_zero hne]; rfl
  · have g := (okT_good hne).1 h
    rw [layT, if_neg (by rw [full_bare g.full]; simp)]
    exact g.laid
theorem drop_next {t : T} {l : List PB} {j : Nat} (hj : j < l.length) (g : RootI t (l.drop j)) : dropV (layT t) (pAtB l j).1 = some (layT (rootD (dropF t.lv t (pAtB l j).1))) ∧ RootI (rootD (dropF t.lv t (pAtB l j).1)) (l.drop (j + 1)) := by
  have e : l.drop j = pAtB l j :: l.drop (j + 1) := by rw [pAtB_lt hj]; exact List.drop_eq_getElem_cons hj
  have h2 := g.del (pAtB l j).1
  rw [e, delP_eq rfl] at h2
  refine ⟨?_, h2⟩
  rw [dropV, g.okT]
  simp only
  rw [if_pos (pOk_mem g.ok (x := pAtB l j) (by rw [e]; simp)).1]
theorem RootI.none {t : T} (g : RootI t []) : layT t = [] := by
  have hd := g.deep.1.2 rfl
  rcases g.good with h | h
  · have := g.all
    have h2 := full_root h
    have h3 := T.size_pos t
    rw [this] at h2
    simp at h2
    omega
  · rw [h]; rfl
/-- Scans. -/
theorem scV_all {l : List PB} (hl : l.length ≤ 200) (lo hi : ByteArray) (back : Bool) : scV l lo hi 200 back = (dirL back l).filter fun p => rHas lo hi p.1 := by
  rw [scV]
  refine List.take_of_length_le ?_
  refine Nat.le_trans (List.length_filter_le _ _) ?_
  rw [dirL_length]
  exact hl
theorem scV_back {l : List PB} (hl : l.length ≤ 200) (lo hi : ByteArray) : scV l lo hi 200 true = (scV l lo hi 200 false).reverse := by
  rw [scV_all hl, scV_all hl]
  simp [dirL]
theorem scV_one {l : List PB} (hl : l.length ≤ 200) (lo hi : ByteArray) : scV l lo hi 1 true = (scV l lo hi 200 true).take 1 := by
  rw [scV_all hl]
  rfl
theorem scV_has {l : List PB} (hl : l.length ≤ 200) (lo hi : ByteArray) {i : Nat} (h : i < (scV l lo hi 200 false).length) : rHas lo hi (pAtB (scV l lo hi 200 false) i).1 = true := by
  have := pAtB_mem h
  rw [scV_all hl] at this
  have := (List.mem_filter.1 this).2
  rwa [scV_all hl]
end Go.Proofs.Ytjplocdjbfpcgaa
/-
  impl.TreeOk: just the trees that are read.
-/
namespace Go.Proofs.Ytjplocdjbfpcgaa
open Go.RowKit
set_option maxHeartbeats 2000000 in
theorem implTreeOk_any (S : Nat → Prop) (an : Option Addr) (nn cn : Nat) (ns : List NB) (w : World) (hN : Nr w S (.slice an nn cn) ns) :
    Calls Try.prog 15 #[.agg #[.slice an nn cn]] w fun e w' => e = .returned (.bool (okT ns).isSome) ∧ Below w.heap.size w w' := by
  have HN := hid hN
  have h1 := hN.len.2.1
  have h2 := hN.len.2.2
  clear hN
  have HB0 := hid (below_new (o := .cells #[.slice an nn cn] 25) (w := w) (Below.refl _ _))
  go_enter Try.func15, Try.ntmps15
  go_wp2_with fail
  refine (rootOf_any S an nn cn ns _ (HN.out.below HB0.out)).mono ?_
  generalize w.alloc (.cells #[.slice an nn cn] 25) = U at *
  rintro e w1 ⟨hpost, hb1⟩
  have HB1 : Hid (Below w.heap.size w w1) := HB0.out.trans (hb1.mono HB0.out.size)
  clear hb1
  cases hr : okT ns with
  | none =>
    rw [hr] at hpost
    have he : e = .returned (.pointer none) := hpost
    subst he
    have HR := hid hr
    clear hpost hr
    go_wp2
    go_ret
    exact ⟨by rw [HR.out]; rfl, HB1.out⟩
  | some t =>
    rw [hr] at hpost
    obtain ⟨b, he, hL⟩ := hpost
    subst he
    have HR := hid hr
    clear hL hr
    go_wp2
    go_ret
    exact ⟨by rw [HR.out]; rfl, HB1.out⟩
end Go.Proofs.Ytjplocdjbfpcgaa
/-
  spec.TreeScan.
-/
namespace Go.Proofs.Ytjplocdjbfpcgaa
open Go.RowKit
theorem wpList_append_pair1 {w : World} {ops : Array Oper} {rest : List Oper} {o : Oper} {a : Act} {Q : Exit → Act → World → Prop} (hgd : o.guard = none) (s x : Operand)
    (ho : o.op = .call { callee := .builtin .append, args := #[s, x], argTypes := #[32, 32] }) (base : Nat) (v : Value) (l : List PB) (hs : a.eval s = v) (hown : Ow w base v l)
    (g : Nat) (y z : ByteArray) (hx : a.eval x = .slice (some ⟨g, 0, none⟩) 1 1) (hB : Bk w g 35 [.string y, .string z]) (hb : l.length ≤ 1048576) (hbase : base ≤ w.heap.size)
    (h : ∀ a' n' c' w', Ow w' base (.slice a' n' c') (l ++ [(y, z)]) → w.grownBy w' v.ownBlock → ((Value.slice a' n' c').ownBlock = v.ownBlock ∨ (Value.slice a' n' c').ownBlock = some w.heap.size) → wpList Try.prog ops Q rest (a.put o.dst (.slice a' n' c')) w') : wpList Try.prog ops Q (o :: rest) a w := by
  obtain ⟨i, hi, hz, hsz, hby⟩ := info_of infoPairI
  refine wpList_append_row_at hgd s x 32 ho base 35 i _ 2 32 Try.underlying32 hi hz hsz hby rfl (by decide) v l.length (pcs l) hs hown (fun _ => True) _ 1 [.string y, .string z] hx (hB.rw (Nat.le_refl _) (by omega) (fun h => by omega) _ trivial) rfl
    (by intro u hu; simp at hu; rcases hu with rfl | rfl <;> rfl) (by unfold maxLen; omega) (by omega) hbase ?_
  intro v' w' k1 k2 k3
  obtain ⟨a', c', rfl⟩ := own_shape k1
  refine h a' _ c' w' ?_ k2 k3
  unfold Ow
  rw [List.length_append, pcs_append]
  exact k1
set_option maxHeartbeats 8000000 in
theorem specTreeScan_any (ns : List NB) (hlen : ns.length ≤ 1048576) (hsm : smallN ns) (S : Nat → Prop) (an : Option Addr) (nn cn : Nat) (lo hi : ByteArray) (most : Int) (back : Bool) (w : World) (hN : Nr w S (.slice an nn cn) ns) :
    Calls Try.prog 29 #[.agg #[.slice an nn cn], .agg #[.string lo, .string hi], .int .i64 most, .bool back] w fun e w' => OwPost (scV (alV ns) lo hi most back) w e w' := by
  have HLS := hid (And.intro hlen hsm)
  have h1 := hN.len.2.1
  have h2 := hN.len.2.2
  have HBU : Hid (Below w.heap.size w (((w.alloc (.cells #[.slice an nn cn] 25)).alloc (.cells #[.string lo, .string hi] 48)).alloc (.cells #[] 35))) := below_new (below_new (below_new (Below.refl _ _)))
  have H0 := hid (hN.below HBU.out)
  have K0 : Hid (Bk (((w.alloc (.cells #[.slice an nn cn] 25)).alloc (.cells #[.string lo, .string hi] 48)).alloc (.cells #[] 35)) w.heap.size 25 [.slice an nn cn]) := ((Bk.new w 25 [.slice an nn cn]).alloc _).alloc _
  have KR : Hid (Bk (((w.alloc (.cells #[.slice an nn cn] 25)).alloc (.cells #[.string lo, .string hi] 48)).alloc (.cells #[] 35)) (w.heap.size + 1) 48 [.string lo, .string hi]) := by
    have := (Bk.new (w.alloc (.cells #[.slice an nn cn] 25)) 48 [.string lo, .string hi]).alloc (.cells #[] 35)
    show Bk _ _ _ _
    simpa using this
  have HO : Hid (Ow (((w.alloc (.cells #[.slice an nn cn] 25)).alloc (.cells #[.string lo, .string hi] 48)).alloc (.cells #[] 35)) (w.heap.size + 2) (.slice (some ⟨w.heap.size + 2, 0, none⟩) 0 0) []) := by
    have := ow_new ((w.alloc (.cells #[.slice an nn cn] 25)).alloc (.cells #[.string lo, .string hi] 48)) (w.heap.size + 2) (by simp)
    show Ow _ _ _ _
    simpa using this
  have HUZ : Hid (w.heap.size + 2 ≤ (((w.alloc (.cells #[.slice an nn cn] 25)).alloc (.cells #[.string lo, .string hi] 48)).alloc (.cells #[] 35)).heap.size) := by show _ ≤ _; simp
  clear hN hlen hsm
  go_enter Try.func29, Try.ntmps29
  have c0 := K0.out.cell (j := 0) rfl
  go_wp2_with fail
  refine (specTreeAll_any ns HLS.out.1 HLS.out.2 S an nn cn _ H0.out).mono ?_
  generalize ((w.alloc (.cells #[.slice an nn cn] 25)).alloc (.cells #[.string lo, .string hi] 48)).alloc (.cells #[] 35) = U at *
  rintro e w1 ⟨vl, rfl, hO, hb⟩
  obtain ⟨a, n, c, hv, hn⟩ := hO.shape'
  subst hv
  have hnl : n ≤ 200 := by rw [hn.out]; exact alV_len ns
  have HNL : Hid ((alV ns).length = n) := hn.out.symm
  obtain ⟨B, hB⟩ : ∃ B, B = w.heap.size + 2 := ⟨_, rfl⟩
  have HBL : Hid (w.heap.size < B ∧ w.heap.size + 1 < B) := ⟨by omega, by omega⟩
  have HB1 : Hid (Below B U w1) := by rw [hB]; exact hb.mono HUZ.out
  have HO1 : Hid (Ow w1 B (.slice (some ⟨w.heap.size + 2, 0, none⟩) 0 0) []) := by rw [hB]; exact HO.out.kept hb
  have HP1 : Hid (Pr w1 (fun b => (Value.slice (some ⟨w.heap.size + 2, 0, none⟩) 0 0).ownBlock ≠ some b) (.slice a n c) (alV ns)) := hO.pr (fun k _ h1 _ e => by
    have h3 := (World.ownsRow.lt HO.out k e).2
    omega)
  have KR1 := hid (KR.out.below hb)
  have hnc := (Rw.len HP1.out).2
  rw [← hB] at HUZ
  clear hb hO c0 H0 K0 KR HO hB hn
  generalize hll : alV ns = l at *
  have HLE := hid hll
  clear hll
  generalize hgz : w.heap.size + 2 = z2 at *
  clear hgz
  go_wp2_with fail
  go_loopw [9, 18] (fun x i wr => ∃ (j : Nat) (av : Option Addr) (nv cv : Nat), j ≤ n ∧ i = .int .i64 j ∧ x = .slice av nv cv ∧ Hid (nv = (scJ l lo hi most back j).length) ∧ Hid (Ow wr B (.slice av nv cv) (scJ l lo hi most back j)) ∧ Hid (Pr wr (fun b => (Value.slice av nv cv).ownBlock ≠ some b) (.slice a n c) l) ∧ Hid (Bk wr (w.heap.size + 1) 48 [.string lo, .string hi]) ∧ Hid (Below B U wr)) (fun _ i _ => n - (intOf i).toNat)
  case atStart => exact ⟨0, _, 0, 0, Nat.zero_le _, rfl, rfl, by show _ = _; simp [scJ], by show Ow _ _ _ _; simpa [scJ] using HO1.out, HP1.out, KR1.out, HB1.out⟩
  case round =>
    obtain ⟨j, av, nv, cv, hj, rfl, rfl, HNV, HO2, HP2, KR2, HB2⟩ := hrel
    by_cases hlt : j < n
    · have hlt' : (j : Int) < (n : Int) := by omega
      have hj0 : (0 : Int) ≤ (j : Int) := by omega
      have hnv : nv ≤ 200 := by rw [HNV.out]; have := scJ_le l lo hi most back j; have := HNL.out; omega
      have hcv := (Rw.len (HO2.out.pr (S := fun _ => True) (fun _ _ _ _ => trivial))).2
      obtain ⟨b, off, hab, _, _, _⟩ := Rw.at HP2.out (by omega)
      subst hab
      obtain ⟨d0, d1⟩ := Pr.cells HP2.out (i := j) (by have := HNL.out; omega)
      cases back with
      | false =>
        have HPJ : Hid (pAtB (dirL false l) j = ((pAtB l j).1, (pAtB l j).2)) := rfl
        have hb := below_new (o := .cells #[.string (pAtB l j).1, .string (pAtB l j).2] 35) (w := wr) (Below.refl _ _)
        have HO3 := hid (HO2.out.kept hb)
        have HP3 := hid (HP2.out.below hb)
        have KR3 := hid (KR2.out.below hb)
        have KP3 := hid (Bk.new wr 35 [.string (pAtB l j).1, .string (pAtB l j).2])
        have HB3 := hid (Below.then' HB2.out hb HUZ.out)
        clear hb HO2 HP2 KR2 HB2
        generalize (pAtB l j).1 = kk at *
        generalize (pAtB l j).2 = vv at *
        have HD : Hid (scJ l lo hi most false (j + 1) = if ((scJ l lo hi most false j).length : Int) < most ∧ rHas lo hi kk = true then scJ l lo hi most false j ++ [(kk, vv)] else scJ l lo hi most false j) := by
          have := scJ_step l lo hi most false j (by have := HNL.out; omega)
          rw [HPJ.out] at this
          exact this
        by_cases hm : (nv : Int) < most
        · have r0 := KR3.out.cell (j := 0) rfl
          have r1 := KR3.out.cell (j := 1) rfl
          have p0 := KP3.out.cell (j := 0) rfl
          have HRH := hid (fun v => specRangeHas_any lo hi kk v)
          simp only [rng] at HRH
          go_wp2_with fail
          refine (HRH.out _).mono ?_
          rintro e w5 ⟨rfl, hb⟩
          have HO5 := hid (HO3.out.kept hb)
          have HP5 := hid (HP3.out.below hb)
          have KR5 := hid (KR3.out.below hb)
          have KP5 := hid (KP3.out.below hb)
          have HB5 := hid (Below.then' HB3.out hb HUZ.out)
          have HG5 := hid hb.size
          clear hb r0 r1 p0 HO3 HP3 KR3 KP3 HB3
          cases hh : rHas lo hi kk with
          | false =>
            have HD2 : Hid (scJ l lo hi most false (j + 1) = scJ l lo hi most false j) := by have := HD.out; rw [hh] at this; show _ = _; simpa using this
            clear hh
            go_wp2
            go_roundw
            case rel => exact ⟨j + 1, av, nv, cv, by omega, by go_num, rfl, by rw [HD2.out]; exact HNV.out, by rw [HD2.out]; exact HO5.out, HP5.out, KR5.out, HB5.out⟩
            case measure => simp [intOf]; omega
          | true =>
            have HD2 : Hid (scJ l lo hi most false (j + 1) = scJ l lo hi most false j ++ [(kk, vv)]) := by
              have := HD.out
              rw [hh, if_pos ⟨by rw [← HNV.out]; exact hm, rfl⟩] at this
              exact this
            clear hh
            have p0 := KP5.out.cell (j := 0) rfl
            have p1 := KP5.out.cell (j := 1) rfl
            have hb := below_new (o := .cells #[.string kk, .string vv] 35) (w := w5) (Below.refl _ _)
            have KS6 := hid (Bk.new w5 35 [.string kk, .string vv])
            have HO6 := hid (HO5.out.kept hb)
            have HP6 := hid (HP5.out.below hb)
            have KR6 := hid (KR5.out.below hb)
            have HB6 := hid (Below.then' HB5.out hb HUZ.out)
            clear hb HO5 HP5 KR5 KP5 HB5
            go_wp2_with (at_builtin; refine wpList_append_pair1 rfl _ _ rfl B _ (scJ l lo hi most false j) rfl HO6.out w5.heap.size kk vv rfl KS6.out ?q1 ?q2 ?_)
            case q1 => have := scJ_le l lo hi most false j; have := HNL.out; omega
            case q2 => have h1 := HB6.out.size; have h2 := HUZ.out; omega
            intro a7 n7 c7 w7 hO7 hg7 hown7
            have HB7 : Hid (Below B U w7) := HB6.out.trans (grown_belowB HO6.out hg7 (by have h1 := HB6.out.size; have h2 := HUZ.out; omega))
            have hon := only_of_grown hg7 (R := fun b => (Value.slice av nv cv).ownBlock = some b) (fun k hk => hk)
            have HP7 : Hid (Pr w7 (fun b => (Value.slice a7 n7 c7).ownBlock ≠ some b) (.slice (some ⟨b, off, none⟩) n c) l) := by
              refine Rw.mono (R := fun b => (Value.slice a7 n7 c7).ownBlock ≠ some b) (Rw.to (S := fun b => (Value.slice av nv cv).ownBlock ≠ some b ∧ b < (w5.alloc (.cells #[.string kk, .string vv] 35)).heap.size) (Rw.mono HP6.out (fun b h1 h2 => ⟨h1, h2⟩)) hon (fun b hb _ hr => hb.1 hr)) (fun b hb _ => ?_)
              rcases hown7 with e | e
              · rw [e]; exact hb.1
              · rw [e]; intro h; cases h; exact absurd hb.2 (by simp)
            have KR7 : Hid (Bk w7 (w.heap.size + 1) 48 [.string lo, .string hi]) := KR6.out.to hon (by
              intro h
              have := World.ownsRow.lt HO6.out _ h
              have := HBL.out
              omega)
            have HO7 : Hid (Ow w7 B (.slice a7 n7 c7) (scJ l lo hi most false j ++ [(kk, vv)])) := hO7
            obtain ⟨_, _, _, hsh, HN7⟩ := hO7.shape'
            cases hsh
            clear hO7 hg7 hown7 hon HO6 HP6 KR6 HB6 KS6 p0 p1
            generalize hdj : scJ l lo hi most false j ++ [(kk, vv)] = dj at *
            clear hdj
            go_wp2
            go_roundw
            case rel => exact ⟨j + 1, a7, n7, c7, by omega, by go_num, rfl, by rw [HD2.out]; exact HN7.out, by rw [HD2.out]; exact HO7.out, HP7.out, KR7.out, HB7.out⟩
            case measure => simp [intOf]; omega
        · have HD2 : Hid (scJ l lo hi most false (j + 1) = scJ l lo hi most false j) := by
            have := HD.out
            rw [if_neg (by rw [← HNV.out]; exact fun h => hm h.1)] at this
            exact this
          go_wp2
          go_roundw
          case rel => exact ⟨j + 1, av, nv, cv, by omega, by go_num, rfl, by rw [HD2.out]; exact HNV.out, by rw [HD2.out]; exact HO3.out, HP3.out, KR3.out, HB3.out⟩
          case measure => simp [intOf]; omega
      | true =>
        have HPJ : Hid (pAtB (dirL true l) j = ((pAtB l (n - 1 - j)).1, (pAtB l (n - 1 - j)).2)) := by
          show _ = _
          rw [dirL_at l j (by have := HNL.out; omega), HNL.out]
        have hjn : (n : Int) - 1 - (j : Int) = ((n - 1 - j : Nat) : Int) := by omega
        obtain ⟨f0, f1⟩ := Pr.cells HP2.out (i := n - 1 - j) (by have := HNL.out; omega)
        have hq : ((n - 1 - j : Nat) : Int) < (n : Int) := by omega
        generalize n - 1 - j = q at *
        have hb := below_new (o := .cells #[.string (pAtB l j).1, .string (pAtB l j).2] 35) (w := wr) (Below.refl _ _)
        have KP2 := hid (Bk.new wr 35 [.string (pAtB l j).1, .string (pAtB l j).2])
        have g0 : (wr.alloc (.cells #[.string (pAtB l j).1, .string (pAtB l j).2] 35)).cell? ⟨b, off + q * 2, none⟩ = some (.string (pAtB l q).1) := by rw [hb.cell (p := ⟨b, off + q * 2, none⟩) (block_lt f0)]; exact f0
        have g1 : (wr.alloc (.cells #[.string (pAtB l j).1, .string (pAtB l j).2] 35)).cell? ⟨b, off + q * 2 + 1, none⟩ = some (.string (pAtB l q).2) := by rw [hb.cell (p := ⟨b, off + q * 2 + 1, none⟩) (block_lt f1)]; exact f1
        have hbs := below_new (o := .cells #[.string (pAtB l q).1, .string (pAtB l q).2] 35) (w := wr) (Below.refl _ _)
        have HO3 := hid (HO2.out.kept hbs)
        have HP3 := hid (HP2.out.below hbs)
        have KR3 := hid (KR2.out.below hbs)
        have KP3 := hid (Bk.new wr 35 [.string (pAtB l q).1, .string (pAtB l q).2])
        have HB3 := hid (Below.then' HB2.out hbs HUZ.out)
        have w0 := KP2.out.cell (j := 0) rfl
        have w1' := KP2.out.cell (j := 1) rfl
        have z0 := KP2.out.free 0
        have z1 := KP2.out.free 1
        clear hb hbs HO2 HP2 KR2 HB2 KP2 f0 f1
        generalize (pAtB l j).1 = k0 at *
        generalize (pAtB l j).2 = v0 at *
        generalize (pAtB l q).1 = kk at *
        generalize (pAtB l q).2 = vv at *
        have HD : Hid (scJ l lo hi most true (j + 1) = if ((scJ l lo hi most true j).length : Int) < most ∧ rHas lo hi kk = true then scJ l lo hi most true j ++ [(kk, vv)] else scJ l lo hi most true j) := by
          have := scJ_step l lo hi most true j (by have := HNL.out; omega)
          rw [HPJ.out] at this
          exact this
        by_cases hm : (nv : Int) < most
        · have r0 := KR3.out.cell (j := 0) rfl
          have r1 := KR3.out.cell (j := 1) rfl
          have p0 := KP3.out.cell (j := 0) rfl
          have HRH := hid (fun v => specRangeHas_any lo hi kk v)
          simp only [rng] at HRH
          go_wp2_with fail
          refine (HRH.out _).mono ?_
          rintro e w5 ⟨rfl, hb⟩
          have HO5 := hid (HO3.out.kept hb)
          have HP5 := hid (HP3.out.below hb)
          have KR5 := hid (KR3.out.below hb)
          have KP5 := hid (KP3.out.below hb)
          have HB5 := hid (Below.then' HB3.out hb HUZ.out)
          have HG5 := hid hb.size
          clear hb r0 r1 p0 HO3 HP3 KR3 KP3 HB3
          cases hh : rHas lo hi kk with
          | false =>
            have HD2 : Hid (scJ l lo hi most true (j + 1) = scJ l lo hi most true j) := by have := HD.out; rw [hh] at this; show _ = _; simpa using this
            clear hh
            go_wp2
            go_roundw
            case rel => exact ⟨j + 1, av, nv, cv, by omega, by go_num, rfl, by rw [HD2.out]; exact HNV.out, by rw [HD2.out]; exact HO5.out, HP5.out, KR5.out, HB5.out⟩
            case measure => simp [intOf]; omega
          | true =>
            have HD2 : Hid (scJ l lo hi most true (j + 1) = scJ l lo hi most true j ++ [(kk, vv)]) := by
              have := HD.out
              rw [hh, if_pos ⟨by rw [← HNV.out]; exact hm, rfl⟩] at this
              exact this
            clear hh
            have p0 := KP5.out.cell (j := 0) rfl
            have p1 := KP5.out.cell (j := 1) rfl
            have hb := below_new (o := .cells #[.string kk, .string vv] 35) (w := w5) (Below.refl _ _)
            have KS6 := hid (Bk.new w5 35 [.string kk, .string vv])
            have HO6 := hid (HO5.out.kept hb)
            have HP6 := hid (HP5.out.below hb)
            have KR6 := hid (KR5.out.below hb)
            have HB6 := hid (Below.then' HB5.out hb HUZ.out)
            clear hb HO5 HP5 KR5 KP5 HB5
            go_wp2_with (at_builtin; refine wpList_append_pair1 rfl _ _ rfl B _ (scJ l lo hi most true j) rfl HO6.out w5.heap.size kk vv rfl KS6.out ?q1 ?q2 ?_)
            case q1 => have := scJ_le l lo hi most true j; have := HNL.out; omega
            case q2 => have h1 := HB6.out.size; have h2 := HUZ.out; omega
            intro a7 n7 c7 w7 hO7 hg7 hown7
            have HB7 : Hid (Below B U w7) := HB6.out.trans (grown_belowB HO6.out hg7 (by have h1 := HB6.out.size; have h2 := HUZ.out; omega))
            have hon := only_of_grown hg7 (R := fun b => (Value.slice av nv cv).ownBlock = some b) (fun k hk => hk)
            have HP7 : Hid (Pr w7 (fun b => (Value.slice a7 n7 c7).ownBlock ≠ some b) (.slice (some ⟨b, off, none⟩) n c) l) := by
              refine Rw.mono (R := fun b => (Value.slice a7 n7 c7).ownBlock ≠ some b) (Rw.to (S := fun b => (Value.slice av nv cv).ownBlock ≠ some b ∧ b < (w5.alloc (.cells #[.string kk, .string vv] 35)).heap.size) (Rw.mono HP6.out (fun b h1 h2 => ⟨h1, h2⟩)) hon (fun b hb _ hr => hb.1 hr)) (fun b hb _ => ?_)
              rcases hown7 with e | e
              · rw [e]; exact hb.1
              · rw [e]; intro h; cases h; exact absurd hb.2 (by simp)
            have KR7 : Hid (Bk w7 (w.heap.size + 1) 48 [.string lo, .string hi]) := KR6.out.to hon (by
              intro h
              have := World.ownsRow.lt HO6.out _ h
              have := HBL.out
              omega)
            have HO7 : Hid (Ow w7 B (.slice a7 n7 c7) (scJ l lo hi most true j ++ [(kk, vv)])) := hO7
            obtain ⟨_, _, _, hsh, HN7⟩ := hO7.shape'
            cases hsh
            clear hO7 hg7 hown7 hon HO6 HP6 KR6 HB6 KS6 p0 p1
            generalize hdj : scJ l lo hi most true j ++ [(kk, vv)] = dj at *
            clear hdj
            go_wp2
            go_roundw
            case rel => exact ⟨j + 1, a7, n7, c7, by omega, by go_num, rfl, by rw [HD2.out]; exact HN7.out, by rw [HD2.out]; exact HO7.out, HP7.out, KR7.out, HB7.out⟩
            case measure => simp [intOf]; omega
        · have HD2 : Hid (scJ l lo hi most true (j + 1) = scJ l lo hi most true j) := by
            have := HD.out
            rw [if_neg (by rw [← HNV.out]; exact fun h => hm h.1)] at this
            exact this
          go_wp2
          go_roundw
          case rel => exact ⟨j + 1, av, nv, cv, by omega, by go_num, rfl, by rw [HD2.out]; exact HNV.out, by rw [HD2.out]; exact HO3.out, HP3.out, KR3.out, HB3.out⟩
          case measure => simp [intOf]; omega
    · have hlt' : ¬ (j : Int) < (n : Int) := by omega
      have hjn : j = n := by omega
      have HE : Hid (scJ l lo hi most back j = scV l lo hi most back) := by show _ = _; rw [hjn, ← HNL.out]; exact scJ_end l lo hi most back
      go_wp2
      go_ret
      refine ⟨_, rfl, ?_, ?_⟩
      · rw [HLE.out, ← HE.out]; exact own_mono HO2.out (by have := HBL.out; omega)
      · exact HBU.out.trans (HB2.out.mono (by have := HBL.out; omega))
end Go.Proofs.Ytjplocdjbfpcgaa
/-
  samePairs of the laws: whether two slices of pairs hold the same.
-/
namespace Go.Proofs.Ytjplocdjbfpcgaa
open Go.RowKit
set_option maxHeartbeats 4000000 in
theorem samePairs_any (S S' : Nat → Prop) (a a' : Option Addr) (n n' c c' : Nat) (l l' : List PB) (w : World) (hP : Pr w S (.slice a n c) l) (hP' : Pr w S' (.slice a' n' c') l') :
    Calls Try.prog 20 #[.slice a n c, .slice a' n' c'] w fun e w' => e = .returned (.bool (decide (l = l'))) ∧ Below w.heap.size w w' := by
  have HP := hid hP
  have HP' := hid hP'
  have lp := hid (Rw.len hP).1
  have lp' := hid (Rw.len hP').1
  have b1 := (Rw.len hP).2
  have b1' := (Rw.len hP').2
  clear hP hP'
  by_cases h1 : n = n'
  · have e1 : ((n : Int) != (n' : Int)) = false := by simp [h1]
    subst h1
    go_enter Try.func20, Try.ntmps20
    go_wp2_with fail
    go_loopw [13] (fun i wr => ∃ k q : Nat, k ≤ n ∧ i = .int .i64 k ∧ wr = w.drewN q ∧ Hid (l.take k = l'.take k)) (fun i _ => n - (intOf i).toNat)
    case atStart => exact ⟨0, 0, Nat.zero_le _, rfl, rfl, rfl⟩
    case round =>
      obtain ⟨k, q, hk, rfl, rfl, HT⟩ := hrel
      by_cases hlt : k < n
      · have hlt' : (k : Int) < (n : Int) := by omega
        obtain ⟨g, off, hap, _, _, hc⟩ := HP.out.at (by omega)
        obtain ⟨g', off', hap', _, _, hc'⟩ := HP'.out.at (by omega)
        subst hap hap'
        have m0 := (hc k hlt).1
        have m1 := (hc k hlt).2
        have m0' := (hc' k hlt).1
        have m1' := (hc' k hlt).2
        have HSS : Hid (pAtB l k = pAtB l' k → l.take (k + 1) = l'.take (k + 1)) := by
          intro e
          have hl : k < l.length := by rw [← lp.out]; exact hlt
          have hl' : k < l'.length := by rw [← lp'.out]; exact hlt
          rw [List.take_succ_eq_append_getElem hl, List.take_succ_eq_append_getElem hl', HT.out]
          simp [pAtB, hl, hl'] at e
          rw [e]
        have HFF : Hid (pAtB l k ≠ pAtB l' k → decide (l = l') = false) := fun e => decide_eq_false (fun q => e (by rw [q]))
        clear hc hc'
        generalize pAtB l k = cx1 at *
        generalize pAtB l' k = cx2 at *
        obtain ⟨k1, v1⟩ := cx1
        obtain ⟨k2, v2⟩ := cx2
        have hnq := neq_pair k1 v1 k2 v2
        by_cases he : (k1, v1) = (k2, v2)
        · have HS1 := hid (HSS.out he)
          rw [decide_eq_true he] at hnq
          clear he HSS HFF
          go_wp2_with fail
          go_quiet (fail)
          go_wp2
          go_roundw
          case rel => exact ⟨k + 1, q + nq, by omega, by go_num, rfl, HS1.out⟩
          case measure => simp [intOf]; omega
        · have HF1 := hid (HFF.out he)
          rw [decide_eq_false he] at hnq
          clear he HSS HFF
          go_wp2_with fail
          go_quiet (fail)
          go_wp2
          go_ret
          exact ⟨by rw [HF1.out]; rfl, Below.drewN' (Below.drewN' (Below.refl _ _) _) _⟩
      · have hlt' : ¬ (k : Int) < (n : Int) := by omega
        have HE : Hid (decide (l = l') = true) := by
          have e : k = n := by omega
          have := HT.out
          rw [List.take_of_length_le (by rw [← lp.out]; omega), List.take_of_length_le (by rw [← lp'.out]; omega)] at this
          exact decide_eq_true this
        clear HT
        go_wp2
        go_ret
        exact ⟨by rw [HE.out]; rfl, Below.drewN' (Below.refl _ _) _⟩
  · have e1 : ((n : Int) != (n' : Int)) = true := by simp; omega
    have HE : Hid (decide (l = l') = false) := decide_eq_false (fun q => h1 (by rw [lp.out, lp'.out, q]))
    clear h1
    go_enter Try.func20, Try.ntmps20
    go_wp2
    go_ret
    exact ⟨by rw [HE.out]; rfl, Below.refl _ _⟩
end Go.Proofs.Ytjplocdjbfpcgaa
