/-
  spec.TreeGet, impl.TreeGet: the same.
-/
import Derived.Test.YtjplocdjbfpcgabAllV
import Derived.Test.YtjplocdjbfpcgabGx
namespace Go.Proofs.Ytjplocdjbfpcgab
open Go.RowKit
def getV (ns : List NB) (k : ByteArray) : Option ByteArray := if kOk k = true then fnd (alV ns) k else none
theorem okT_get {ns : List NB} {t : T} (h : okT ns = some t) : GetOk t := by
  have hf := okT_facts h
  by_cases hne : ns.length = 0
  · rw [hf.nil hne]
    exact ⟨List.Pairwise.nil, fun h => absurd rfl h, by decide⟩
  · exact full_getOk ((okT_good hne).1 h).full (pOk_asc hf.ok)
def fndF (l : List PB) (k : ByteArray) : Nat → Nat → Option ByteArray
  | 0, _ => none
  | f + 1, j => if (pAtB l j).1 = k then some (pAtB l j).2 else fndF l k f (j + 1)
theorem fndF_eq (l : List PB) (k : ByteArray) : ∀ (f j : Nat), j + f = l.length → fndF l k f j = fnd (l.drop j) k
  | 0, j, h => by rw [List.drop_eq_nil_of_le (by omega)]; rfl
  | f + 1, j, h => by
    rw [fndF, ← List.getElem_cons_drop (by omega : j < l.length), fnd, List.findSome?_cons, pAtB_lt (by omega)]
    by_cases e : l[j].1 = k
    · simp [e]
    · simp only [e, if_false]
      exact fndF_eq l k f (j + 1) (by omega)
set_option maxHeartbeats 2000000 in
theorem implTreeGet_any (S : Nat → Prop) (an : Option Addr) (nn cn : Nat) (ns : List NB) (k : ByteArray) (w : World) (hN : Nr w S (.slice an nn cn) ns) :
    Calls Try.prog 21 #[.agg #[.slice an nn cn], .string k] w fun e w' => e = .returned (gotV (getV ns k)) ∧ Below w.heap.size w w' := by
  have HN := hid hN
  have h1 := hN.len.2.1
  have h2 := hN.len.2.2
  clear hN
  have HB0 := hid (below_new (o := .cells #[.slice an nn cn] 29) (w := w) (Below.refl _ _))
  go_enter Try.func21, Try.ntmps21
  go_wp2_with fail
  refine (rootOf_any S an nn cn ns _ (HN.out.below HB0.out)).mono ?_
  generalize w.alloc (.cells #[.slice an nn cn] 29) = U at *
  rintro e w1 ⟨hpost, hb1⟩
  have HB1 : Hid (Below w.heap.size w w1) := HB0.out.trans (hb1.mono HB0.out.size)
  clear hb1
  cases hr : okT ns with
  | none =>
    rw [hr] at hpost
    have he : e = .returned (.pointer none) := hpost
    subst he
    have HR : Hid (getV ns k = none) := by
      show _ = _
      rw [getV, alV, hr]
      split <;> rfl
    clear hpost hr
    go_wp2
    go_ret2
    exact ⟨by rw [HR.out]; rfl, HB1.out⟩
  | some t =>
    rw [hr] at hpost
    obtain ⟨b, he, hL⟩ := hpost
    subst he
    have HG := hid (okT_get hr)
    have HL := hid hL
    have HR : Hid (alV ns = t.all) := by show _ = _; rw [alV, hr]
    clear hL hr
    go_wp2_with fail
    refine (implKeyOk_any k w1).mono ?_
    rintro e w2 ⟨rfl, rfl⟩
    cases hk : kOk k with
    | false =>
      have HR2 : Hid (getV ns k = none) := by show _ = _; rw [getV, hk]; rfl
      clear hk
      go_wp2
      go_ret2
      exact ⟨by rw [HR2.out]; rfl, HB1.out⟩
    | true =>
      have HR2 : Hid (getV ns k = fnd t.all k) := by show _ = _; rw [getV, hk, HR.out]; rfl
      clear hk
      go_wp2_with fail
      refine (get_any _ b t k _ HL.out HG.out).mono ?_
      rintro e w3 ⟨rfl, hb⟩
      have HB3 := hid (Below.then' HB1.out hb (Nat.le_refl _))
      clear hb
      generalize fnd t.all k = o at *
      cases o with
      | none =>
        simp only [gotV]
        go_wp2
        go_ret2
        exact ⟨by rw [HR2.out]; rfl, HB3.out⟩
      | some v =>
        simp only [gotV]
        go_wp2
        go_ret2
        exact ⟨by rw [HR2.out]; rfl, HB3.out⟩
set_option maxHeartbeats 4000000 in
theorem specTreeGet_any (ns : List NB) (hlen : ns.length ≤ 1048576) (hsm : smallN ns) (S : Nat → Prop) (an : Option Addr) (nn cn : Nat) (k : ByteArray) (w : World) (hN : Nr w S (.slice an nn cn) ns) :
    Calls Try.prog 20 #[.agg #[.slice an nn cn], .string k] w fun e w' => e = .returned (gotV (getV ns k)) ∧ Below w.heap.size w w' := by
  have h1 := hN.len.2.1
  have h2 := hN.len.2.2
  have HB0 := hid (below_new (o := .cells #[.slice an nn cn] 29) (w := w) (Below.refl _ _))
  have K0 := hid (Bk.new w 29 [.slice an nn cn])
  have H0 := hid (hN.below HB0.out)
  have HLS := hid (And.intro hlen hsm)
  clear hN hlen hsm
  go_enter Try.func20, Try.ntmps20
  go_wp2_with fail
  refine (specKeyOk_any k _).mono ?_
  generalize w.alloc (.cells #[.slice an nn cn] 29) = U at *
  rintro e w1 ⟨rfl, rfl⟩
  cases hk : kOk k with
  | false =>
    have HR : Hid (getV ns k = none) := by show _ = _; rw [getV, hk]; rfl
    clear hk
    go_wp2
    go_ret2
    exact ⟨by rw [HR.out]; rfl, HB0.out⟩
  | true =>
    have HR : Hid (getV ns k = fndF (alV ns) k (alV ns).length 0) := by
      show _ = _
      rw [getV, hk, if_pos rfl, fndF_eq _ _ _ _ (by omega)]
      rfl
    clear hk
    have c0 := K0.out.cell (j := 0) rfl
    go_wp2_with fail
    refine (specTreeAll_any ns HLS.out.1 HLS.out.2 S an nn cn _ H0.out).mono ?_
    rintro e w1 ⟨v, rfl, hO, hb⟩
    obtain ⟨a, n, c, hv, hn⟩ := hO.shape'
    subst hv
    have HB1 := hid (Below.then' HB0.out hb (Nat.le_refl _))
    have HP : Hid (Pr w1 (fun _ => True) (.slice a n c) (alV ns)) := hO.pr (fun _ _ _ _ => trivial)
    have hnl : n ≤ 200 := by rw [hn.out]; exact alV_len ns
    have hnc := (Rw.len HP.out).2
    rw [← hn.out] at HR
    clear hb hO c0 H0 K0 HB0
    generalize alV ns = l at *
    go_wp2_with fail
    go_loopw [14] (fun x wr => ∃ j f : Nat, x = .int .i64 j ∧ j + f = n ∧ Hid (getV ns k = fndF l k f j) ∧ Hid (Below w.heap.size w wr) ∧ Hid (Below w1.heap.size w1 wr)) (fun x _ => n - (intOf x).toNat)
    case atStart => exact ⟨0, n, rfl, by omega, HR.out, HB1.out, Below.refl _ _⟩
    case round =>
      obtain ⟨j, f, rfl, hjf, HF, HBW, HBV⟩ := hrel
      cases f with
      | zero =>
        have hlt : ¬ (j : Int) < (n : Int) := by omega
        go_wp2
        go_ret2
        exact ⟨by rw [HF.out]; rfl, HBW.out⟩
      | succ f =>
        have hlt : (j : Int) < (n : Int) := by omega
        have hj0 : (0 : Int) ≤ (j : Int) := by omega
        have hp := HP.out.below HBV.out
        obtain ⟨b, off, hab, _, _, _⟩ := Rw.at hp (by omega)
        subst hab
        obtain ⟨d0, d1⟩ := Pr.cells hp (i := j) (by have := hn.out; omega)
        clear hp
        have HB2 := hid (HBW.out.alloc HBW.out.size (.cells #[.string (pAtB l j).1, .string (pAtB l j).2] 75))
        have HB3 := hid (HBV.out.alloc HBV.out.size (.cells #[.string (pAtB l j).1, .string (pAtB l j).2] 75))
        have HF2 := HF.out
        rw [fndF] at HF2
        by_cases e : (pAtB l j).1 = k
        · rw [if_pos e] at HF2
          have HF3 := hid HF2
          rw [e] at d0 HB2
          generalize (pAtB l j).2 = z at *
          clear HF2 HF e
          have hkk : (k.toList == k.toList) = true := by simp
          go_wp2
          go_ret2
          exact ⟨by rw [HF3.out]; rfl, HB2.out⟩
        · rw [if_neg e] at HF2
          have HF3 := hid HF2
          have hne := str_beq e
          generalize (pAtB l j).2 = z at *
          generalize (pAtB l j).1 = y at *
          clear HF2 HF e
          go_wp2
          go_roundw
          case rel => exact ⟨j + 1, f, by go_num, by omega, HF3.out, HB2.out, HB3.out⟩
          case measure => simp [intOf]; omega
end Go.Proofs.Ytjplocdjbfpcgab
