/-
  impl.rootDrop and impl.TreeDrop.
-/
import Derived.Test.YtkflneeifllpgaaMw3
import Derived.Test.YtkflneeifllpgaaMw4
import Derived.Test.YtkflneeifllpgaaMw1
import Derived.Test.YtkflneeifllpgaaMw2
import Derived.Deep.DeepCutAuto
import Derived.Deep.RegionLaw
namespace Go.Proofs.Ytkflneeifllpgaa
open Go.RowKit
/-- The tree behind a drop. -/
def dropV (ns : List NB) (k : ByteArray) : Option (List NB) := match okT ns with
  | none => none
  | some t => if kOk k = true then some (layT (rootD (dropF t.lv t k))) else none
theorem dropV_size {ns : List NB} {t : T} (h : okT ns = some t) (k : ByteArray) : (rootD (dropF t.lv t k)).all.length ≤ 201 ∧ (rootD (dropF t.lv t k)).size ≤ 201 ∧ (rootD (dropF t.lv t k)).ps.length + (rootD (dropF t.lv t k)).ks.length ≤ 8 := by
  obtain ⟨h1, h2, h3⟩ := rootD_out (k := k) (okT_putIn h)
  have h4 := delP_len t.all k
  have h5 := (okT_facts h).all
  refine ⟨by rw [h3]; omega, ?_⟩
  rcases h1 with h1 | h1
  · have h6 := full_root h1
    rw [h3] at h6
    have := full_small h1
    exact ⟨by omega, by omega⟩
  · rw [h1]; exact ⟨by decide, by decide⟩
end Go.Proofs.Ytkflneeifllpgaa
/-
  What the law's helper markText does: it answers with one text for each number (for trees: greater numbers).
-/
namespace Go.Proofs.Ytkflneeifllpgaa
open Go.RowKit
/-- The decimal digits of k ahead of acc. -/
def mtG : Nat → Nat → ByteArray → ByteArray
  | 0, _, acc => acc
  | f + 1, k, acc => if k = 0 then acc else mtG f (k / 10) (strOf [48 + ((k % 10 : Nat) : Int)] ++ acc)
theorem mtG_end (f : Nat) (acc : ByteArray) : mtG f 0 acc = acc := by cases f <;> simp [mtG]
theorem mtG_step (f k : Nat) (acc : ByteArray) (h : 0 < k) : mtG (f + 1) k acc = mtG f (k / 10) (strOf [48 + ((k % 10 : Nat) : Int)] ++ acc) := by
  simp [mtG]; omega
/-- The text for k. -/
def mt (k : Nat) : ByteArray := ⟨#[109]⟩ ++ mtG k k ⟨#[]⟩
set_option maxHeartbeats 4000000 in
theorem markText_any (k : Nat) (w : World) (h0 : 0 < k) (h1 : k ≤ 1152921504606846976) : Calls Try.prog 135 #[.int .i64 k] w fun e w' => e = .returned (.string (mt k)) ∧ Below w.heap.size w w' := by
  have h0' : ¬ (k : Int) ≤ 0 := by omega
  go_enter Try.func135, Try.ntmps135
  go_wp2_with fail
  go_loopw [0, 3] (fun x s wr => ∃ (j f : Nat) (acc : ByteArray), x = .int .i64 j ∧ s = .string acc ∧ j ≤ f ∧ Hid (mtG f j acc = mtG k k ⟨#[]⟩) ∧ j + acc.size ≤ k ∧ Hid (Below w.heap.size w wr)) (fun x _ _ => (intOf x).toNat)
  case atStart => exact ⟨k, k, ⟨#[]⟩, rfl, rfl, Nat.le_refl _, rfl, Nat.le_refl _, Below.refl _ _⟩
  case round =>
    obtain ⟨j, f, acc, rfl, rfl, hjf, HM, hsz, HB⟩ := hrel
    rcases Nat.eq_zero_or_pos j with rfl | hj
    · rw [mtG_end] at HM
      have hcat : (⟨#[109]⟩ : ByteArray).size = 1 := rfl
      have HE : Hid (⟨#[109]⟩ ++ acc = mt k) := by show ⟨#[109]⟩ ++ acc = mt k; rw [HM.out]; rfl
      go_wp2
      go_ret
      exact ⟨by rw [HE.out]; rfl, HB.out⟩
    · obtain ⟨f, rfl⟩ : ∃ g, f = g + 1 := ⟨f - 1, by omega⟩
      rw [mtG_step f j acc hj] at HM
      have hj' : (0 : Int) < (j : Int) := by omega
      obtain ⟨z, hz⟩ : ∃ z : Nat, z = j % 10 := ⟨_, rfl⟩
      obtain ⟨q, hq⟩ : ∃ q : Nat, q = j / 10 := ⟨_, rfl⟩
      rw [← hz, ← hq] at HM
      have hz1 : z < 10 := by omega
      have hmod : (j : Int).tmod 10 = (z : Int) := by rw [Int.tmod_eq_emod_of_nonneg (by omega)]; omega
      have hdiv : (j : Int).tdiv 10 = (q : Int) := by rw [Int.tdiv_eq_ediv_of_nonneg (by omega)]; omega
      have hqj : q < j := by omega
      have hq2 : q + 1 ≤ j := by omega
      clear hz hq
      have hst := run_str (rd_lit wr (48 + (z : Int)) (by omega) (by omega))
      have hts := strOf_size [48 + (z : Int)]
      simp only [List.length_cons, List.length_nil] at hts
      generalize strOf [48 + (z : Int)] = t at *
      go_wp2
      go_roundw
      case rel => exact ⟨q, f, t ++ acc, by go_num, rfl, by omega, HM, by rw [ByteArray.size_append]; omega, HB.out.alloc HB.out.size _⟩
      case measure => simp [intOf]; omega
theorem markText_at (k : Nat) (z : Int) (hz : z = k) (w : World) (h0 : 0 < k) (h1 : k ≤ 1152921504606846976) : Calls Try.prog 135 #[.int .i64 z] w fun e w' => e = .returned (.string (mt k)) ∧ Below w.heap.size w w' := by
  subst hz
  exact markText_any k w h0 h1
end Go.Proofs.Ytkflneeifllpgaa
/-
  Writing marks into slices: texts into cells of texts, numbers into cells of numbers; nothing else turns.
-/
namespace Go.Proofs.Ytkflneeifllpgaa
open Go.RowKit
set_option linter.unusedVariables false
def isStr (u : Value) : Prop := ∃ s, u = .string s
def isInt (u : Value) : Prop := ∃ i, u = .int .i64 i
/-- The cell is the same, or both are texts, or both are numbers. -/
def simV (x y : Value) : Prop := x = y ∨ (isStr x ∧ isStr y) ∨ (isInt x ∧ isInt y)
theorem simV.trans {x y z : Value} (h : simV x y) (k : simV y z) : simV x z := by
  rcases h with rfl | ⟨h1, h2⟩ | ⟨h1, h2⟩
  · exact k
  · rcases k with rfl | ⟨k1, k2⟩ | ⟨k1, k2⟩
    · exact .inr (.inl ⟨h1, h2⟩)
    · exact .inr (.inl ⟨h1, k2⟩)
    · obtain ⟨s, rfl⟩ := h2; obtain ⟨i, hi⟩ := k1; cases hi
  · rcases k with rfl | ⟨k1, k2⟩ | ⟨k1, k2⟩
    · exact .inr (.inr ⟨h1, h2⟩)
    · obtain ⟨s, rfl⟩ := h2; obtain ⟨i, hi⟩ := k1; cases hi
    · exact .inr (.inr ⟨h1, k2⟩)
def Kind (K : Value → Prop) : Prop := ∀ x y, K x → simV x y → K y
theorem kind_str : Kind isStr := by
  rintro x y hx (rfl | ⟨_, h⟩ | ⟨h, _⟩)
  · exact hx
  · exact h
  · obtain ⟨s, rfl⟩ := hx; obtain ⟨i, hi⟩ := h; cases hi
theorem kind_int : Kind isInt := by
  rintro x y hx (rfl | ⟨h, _⟩ | ⟨_, h⟩)
  · exact hx
  · obtain ⟨s, rfl⟩ := hx; obtain ⟨i, hi⟩ := h; cases hi
  · exact h
theorem kind_slice (v : Value) (hv : ∃ a n c, v = .slice a n c) : Kind (fun u => u = v) := by
  obtain ⟨a, n, c, rfl⟩ := hv
  rintro x y rfl (rfl | ⟨h, _⟩ | ⟨h, _⟩)
  · rfl
  · obtain ⟨s, hs⟩ := h; cases hs
  · obtain ⟨s, hs⟩ := h; cases hs
/-- From w to w' only rows of S have turned, and of these each cell keeps its kind. -/
structure Mk (S : Nat → Prop) (w w' : World) : Prop where
  only : Only S w w'
  sim : ∀ b T xs, Bk w b T xs → S b → ∃ ys, Bk w' b T ys ∧ ∀ (j : Nat) u, xs[j]? = some u → ∃ u', ys[j]? = some u' ∧ simV u u'
theorem Mk.refl (S : Nat → Prop) (w : World) : Mk S w w := ⟨Only.refl _ _, fun b T xs h _ => ⟨xs, h, fun j u hu => ⟨u, hu, .inl rfl⟩⟩⟩
theorem Mk.trans {S : Nat → Prop} {a b c : World} (h : Mk S a b) (k : Mk S b c) : Mk S a c := by
  refine ⟨h.only.trans k.only, fun g T xs hb hS => ?_⟩
  obtain ⟨ys, h1, h2⟩ := h.sim g T xs hb hS
  obtain ⟨zs, h3, h4⟩ := k.sim g T ys h1 hS
  refine ⟨zs, h3, fun j u hu => ?_⟩
  obtain ⟨u', h5, h6⟩ := h2 j u hu
  obtain ⟨u'', h7, h8⟩ := h4 j u' h5
  exact ⟨u'', h7, h6.trans h8⟩
theorem mk_below {S : Nat → Prop} {w w' : World} (h : Below w.heap.size w w') : Mk S w w' := ⟨only_of_below h S, fun b T xs hb _ => ⟨xs, hb.below h, fun j u hu => ⟨u, hu, .inl rfl⟩⟩⟩
theorem mk_set {S : Nat → Prop} {w : World} {b o : Nat} {T : TypeId} {xs : List Value} {x y : Value} (hb : Bk w b T xs) (hS : S b) (hx : xs[o]? = some x) (hs : simV x y) : Mk S w (w.setCell ⟨b, o, none⟩ y) := by
  refine ⟨only_set hS y, fun g T' zs hg _ => ?_⟩
  by_cases e : g = b
  · subst e
    refine ⟨_, hg.set o y, fun j u hu => ?_⟩
    have hz : some (Obj.cells xs.toArray T (0, 0)) = some (Obj.cells zs.toArray T' (0, 0)) := hb.symm.trans hg
    simp at hz
    obtain ⟨rfl, rfl⟩ := hz
    by_cases ej : j = o
    · subst ej
      rw [hx] at hu
      cases hu
      exact ⟨y, by simp [(List.getElem?_eq_some_iff.1 hx).1], hs⟩
    · exact ⟨u, by rw [List.getElem?_set_ne (Ne.symm ej)]; exact hu, .inl rfl⟩
  · exact ⟨zs, hg.setOther e _ _, fun j u hu => ⟨u, hu, .inl rfl⟩⟩
theorem Uf.bk {w : World} {b : Nat} (h : Uf w b) : ∃ T xs, Bk w b T xs := by
  obtain ⟨xs, T, h⟩ := h
  exact ⟨T, xs.toList, by show _ = _; simpa using h⟩
theorem Mk.uf {S : Nat → Prop} {w w' : World} (m : Mk S w w') {b : Nat} (h : Uf w b) : Uf w' b := by
  obtain ⟨T, xs, hb⟩ := h.bk
  by_cases hS : S b
  · obtain ⟨ys, h1, _⟩ := m.sim b T xs hb hS
    exact h1.uf
  · exact (hb.to m.only hS).uf
theorem bk_cell {w : World} {b o : Nat} {T : TypeId} {xs : List Value} {u : Value} (h : Bk w b T xs) (hc : w.cell? ⟨b, o, none⟩ = some u) : xs[o]? = some u := by
  have h' : w.heap[b]? = some (.cells xs.toArray T (0, 0)) := h
  simpa [World.cell?, h'] using hc
theorem Mk.cell {S : Nat → Prop} {w w' : World} (m : Mk S w w') {b o : Nat} {u : Value} (hu : Uf w b) (hc : w.cell? ⟨b, o, none⟩ = some u) : ∃ u', w'.cell? ⟨b, o, none⟩ = some u' ∧ simV u u' := by
  obtain ⟨T, xs, hb⟩ := hu.bk
  have hx := bk_cell hb hc
  by_cases hS : S b
  · obtain ⟨ys, h1, h2⟩ := m.sim b T xs hb hS
    obtain ⟨u', h3, h4⟩ := h2 o u hx
    exact ⟨u', h1.cell h3, h4⟩
  · exact ⟨u, (hb.to m.only hS).cell hx, .inl rfl⟩
/-- The slice value v leads to n elements of m cells of the kind K, in a row of S that may be written. -/
def Kw (w : World) (S : Nat → Prop) (v : Value) (n m : Nat) (K : Value → Prop) : Prop :=
  ∃ a c, v = .slice a n c ∧ n ≤ c ∧ c ≤ 9223372036854775807 ∧ (0 < n → ∃ b off, a = some ⟨b, off, none⟩ ∧ S b ∧ Uf w b ∧ ∀ j, j < m → ∃ u, w.cell? ⟨b, off + j, none⟩ = some u ∧ K u)
theorem Kw.mk {S S' : Nat → Prop} {w w' : World} {v : Value} {n m : Nat} {K : Value → Prop} (h : Kw w S v n m K) (hm : Mk S' w w') (hK : Kind K) : Kw w' S v n m K := by
  obtain ⟨a, c, h1, h2, h3, h4⟩ := h
  refine ⟨a, c, h1, h2, h3, fun hn => ?_⟩
  obtain ⟨b, off, h5, h6, h7, h8⟩ := h4 hn
  refine ⟨b, off, h5, h6, hm.uf h7, fun j hj => ?_⟩
  obtain ⟨u, h9, h10⟩ := h8 j hj
  obtain ⟨u', h11, h12⟩ := hm.cell h7 h9
  exact ⟨u', h11, hK _ _ h10 h12⟩
theorem kw_of {w : World} {S S' : Nat → Prop} {v : Value} {n : Nat} {xs : List Value} {K : Value → Prop} (h : Rw w S v n xs) (hx : ∀ u ∈ xs, K u) (hS : ∀ b, S b → b < w.heap.size → S' b ∧ Uf w b) : Kw w S' v n xs.length K := by
  obtain ⟨a, c, h1, h2, h3, h4, hn, h5⟩ := h
  refine ⟨a, c, h1, h2, h3, fun hp => ?_⟩
  obtain ⟨b, off, h6, h7, h8, h9⟩ := h5 hp
  refine ⟨b, off, h6, (hS b h8 h7).1, (hS b h8 h7).2, fun j hj => ?_⟩
  exact ⟨xs[j], h9 j _ (by simp [hj]), hx _ (by simp)⟩
/-- Of the m cells from off on the first i are V's. -/
def Mi (w : World) (b off m i : Nat) (V : Nat → Value) (K : Value → Prop) : Prop := ∃ T xs, Bk w b T xs ∧ (∀ j, j < m → ∃ u, xs[off + j]? = some u ∧ K u) ∧ ∀ j, j < i → xs[off + j]? = some (V j)
theorem Mi.start {w : World} {b off m : Nat} {V : Nat → Value} {K : Value → Prop} (hu : Uf w b) (h : ∀ j, j < m → ∃ u, w.cell? ⟨b, off + j, none⟩ = some u ∧ K u) : Mi w b off m 0 V K := by
  obtain ⟨T, xs, hb⟩ := hu.bk
  refine ⟨T, xs, hb, fun j hj => ?_, fun j hj => absurd hj (Nat.not_lt_zero _)⟩
  obtain ⟨u, h1, h2⟩ := h j hj
  exact ⟨u, bk_cell hb h1, h2⟩
theorem Mi.below {w w' : World} {b off m i : Nat} {V : Nat → Value} {K : Value → Prop} (h : Mi w b off m i V K) (hb : Below w.heap.size w w') : Mi w' b off m i V K := by
  obtain ⟨T, xs, h1, h2, h3⟩ := h
  exact ⟨T, xs, h1.below hb, h2, h3⟩
theorem Mi.cell {w : World} {b off m i : Nat} {V : Nat → Value} {K : Value → Prop} (h : Mi w b off m i V K) {j : Nat} (hj : j < m) : (∃ u, w.cell? ⟨b, off + j, none⟩ = some u ∧ K u) ∧ w.frozen? ⟨b, off + j, none⟩ = false := by
  obtain ⟨T, xs, h1, h2, h3⟩ := h
  obtain ⟨u, h4, h5⟩ := h2 j hj
  exact ⟨⟨u, h1.cell h4, h5⟩, h1.free _⟩
theorem Mi.set {w : World} {b off m i : Nat} {V : Nat → Value} {K : Value → Prop} (h : Mi w b off m i V K) {o : Nat} (ho : o = off + i) (hi : i < m) (hK : K (V i)) : Mi (w.setCell ⟨b, o, none⟩ (V i)) b off m (i + 1) V K := by
  subst ho
  obtain ⟨T, xs, h1, h2, h3⟩ := h
  refine ⟨T, _, h1.set _ _, fun j hj => ?_, fun j hj => ?_⟩
  · obtain ⟨u, h4, h5⟩ := h2 j hj
    by_cases e : j = i
    · subst e
      exact ⟨V j, by simp [(List.getElem?_eq_some_iff.1 h4).1], hK⟩
    · exact ⟨u, by rw [List.getElem?_set_ne (by omega)]; exact h4, h5⟩
  · by_cases e : j = i
    · subst e
      obtain ⟨u, h4, _⟩ := h2 j hi
      simp [(List.getElem?_eq_some_iff.1 h4).1]
    · rw [List.getElem?_set_ne (by omega)]
      exact h3 j (by omega)
end Go.Proofs.Ytkflneeifllpgaa
/-
  The law's helpers that write marks into slices: of pairs, of texts, of numbers.
-/
namespace Go.Proofs.Ytkflneeifllpgaa
open Go.RowKit
def mV (k : Nat) (j : Nat) : Value := .string (mt (k + j))
def mI (k : Nat) (j : Nat) : Value := .int .i64 ((k + j : Nat) : Int)
theorem mi_mk {S : Nat → Prop} {w : World} {b off m i : Nat} {V : Nat → Value} {K : Value → Prop} (h : Mi w b off m i V K) (hS : S b) {o : Nat} (ho : o = off + i) (hi : i < m) (hs : ∀ u, K u → simV u (V i)) : Mk S w (w.setCell ⟨b, o, none⟩ (V i)) := by
  subst ho
  obtain ⟨T, xs, h1, h2, h3⟩ := h
  obtain ⟨u, h4, h5⟩ := h2 i hi
  exact mk_set h1 hS h4 (hs u h5)
theorem sim_mV (k i : Nat) : ∀ u, isStr u → simV u (mV k i) := fun _ hu => .inr (.inl ⟨hu, _, rfl⟩)
theorem sim_mI (k i : Nat) : ∀ u, isInt u → simV u (mI k i) := fun _ hu => .inr (.inr ⟨hu, _, rfl⟩)
/-- What comes of writing marks into the m cells of a slice. -/
def Marked (S : Nat → Prop) (w : World) (a : Option Addr) (n m : Nat) (V : Nat → Value) (K : Value → Prop) (w' : World) : Prop := Mk S w w' ∧ (0 < n → ∃ b off, a = some ⟨b, off, none⟩ ∧ S b ∧ Mi w' b off m m V K)
set_option maxHeartbeats 4000000 in
theorem markPairS_any (S : Nat → Prop) (a : Option Addr) (n c k : Nat) (w : World) (h : Kw w S (.slice a n c) n (n * 2) isStr) (hn : n ≤ 1048576) (hk0 : 0 < k) (hk : k ≤ 576460752303423488) :
    Calls Try.prog 93 #[.slice a n c, .int .i64 k] w fun e w' => e = .returned (.int .i64 ((k + n * 2 : Nat) : Int)) ∧ Marked S w a n (n * 2) (mV k) isStr w' := by
  obtain ⟨a', c', h1, h2, h3, h4⟩ := h
  cases h1
  rcases Nat.eq_zero_or_pos n with hz | hp
  · clear h4
    subst hz
    go_enter Try.func93, Try.ntmps93
    go_wp2_with fail
    go_loop [1, 5] (fun x i => x = .int .i64 k ∧ i = .int .i64 (0 : Nat)) (fun _ _ => 0)
    case atStart => exact ⟨rfl, rfl⟩
    case round =>
      obtain ⟨rfl, rfl⟩ := hrel
      go_wp2
      go_ret
      exact ⟨rfl, Mk.refl _ _, fun h => absurd h (Nat.lt_irrefl _)⟩
  · obtain ⟨b, off, rfl, hS, hu, hc⟩ := h4 hp
    have HI : Hid (Mi w b off (n * 2) 0 (mV k) isStr) := Mi.start hu hc
    have HS := hid hS
    clear h4 hc hu hS
    go_enter Try.func93, Try.ntmps93
    go_wp2_with fail
    go_loopw [1, 5] (fun x i wr => ∃ j : Nat, x = .int .i64 ((k + j * 2 : Nat) : Int) ∧ i = .int .i64 j ∧ j ≤ n ∧ Hid (Mi wr b off (n * 2) (j * 2) (mV k) isStr) ∧ Hid (Mk S w wr)) (fun _ i _ => n - (intOf i).toNat)
    case atStart => exact ⟨0, rfl, rfl, Nat.zero_le _, HI.out, Mk.refl _ _⟩
    case round =>
      obtain ⟨j, rfl, rfl, hj, HX, HG⟩ := hrel
      by_cases hlt : j < n
      · have hlt' : (j : Int) < (n : Int) := by omega
        have hj0 : (0 : Int) ≤ (j : Int) := by omega
        generalize hkz : k + j * 2 = kz
        have hkz0 : 0 < kz := by omega
        have hkz1 : kz ≤ 576460754400575488 := by omega
        have HK := hid hkz
        clear hkz
        go_wp2_with fail
        refine (markText_at kz (kz : Int) rfl wr hkz0 (by omega)).mono ?_
        rintro e w1 ⟨rfl, hb1⟩
        have HX1 := hid (HX.out.below hb1)
        have HG1 := hid (HG.out.trans (mk_below hb1))
        clear hb1 HX HG
        obtain ⟨⟨u0, c0, s0⟩, f0⟩ := HX1.out.cell (j := j * 2) (by omega)
        obtain ⟨u0, rfl⟩ := s0
        have HX2 : Hid (Mi (w1.setCell ⟨b, off + j * 2, none⟩ (.string (mt kz))) b off (n * 2) (j * 2 + 1) (mV k) isStr) := by rw [← HK.out]; exact HX1.out.set rfl (by omega) ⟨_, rfl⟩
        have HG2 : Hid (Mk S w (w1.setCell ⟨b, off + j * 2, none⟩ (.string (mt kz)))) := by rw [← HK.out]; exact HG1.out.trans (mi_mk HX1.out HS.out rfl (by omega) (sim_mV k (j * 2)))
        clear HX1 HG1
        generalize mt kz = m0 at *
        go_wp2_with fail
        refine (markText_at (kz + 1) ((kz : Int) + 1) (by omega) _ (by omega) (by omega)).mono ?_
        generalize w1.setCell ⟨b, off + j * 2, none⟩ (.string m0) = w2 at *
        rintro e w3 ⟨rfl, hb1⟩
        have HX3 := hid (HX2.out.below hb1)
        have HG3 := hid (HG2.out.trans (mk_below hb1))
        clear hb1 HX2 HG2 c0 f0
        obtain ⟨⟨u1, c1, s1⟩, f1⟩ := HX3.out.cell (j := j * 2 + 1) (by omega)
        obtain ⟨u1, rfl⟩ := s1
        have HX4 : Hid (Mi (w3.setCell ⟨b, off + j * 2 + 1, none⟩ (.string (mt (kz + 1)))) b off (n * 2) (j * 2 + 2) (mV k) isStr) := by
          rw [← HK.out, show k + j * 2 + 1 = k + (j * 2 + 1) by omega]; exact HX3.out.set (by omega) (by omega) ⟨_, rfl⟩
        have HG4 : Hid (Mk S w (w3.setCell ⟨b, off + j * 2 + 1, none⟩ (.string (mt (kz + 1))))) := by
          rw [← HK.out, show k + j * 2 + 1 = k + (j * 2 + 1) by omega]; exact HG3.out.trans (mi_mk HX3.out HS.out (by omega) (by omega) (sim_mV k (j * 2 + 1)))
        clear HX3 HG3
        rw [← Nat.add_assoc] at c1 f1
        generalize mt (kz + 1) = m1 at *
        go_wp2
        go_roundw
        case rel => exact ⟨j + 1, by rw [show k + (j + 1) * 2 = kz + 2 by have := HK.out; omega]; go_num, by go_num, by omega, by rw [show (j + 1) * 2 = j * 2 + 2 by omega]; exact HX4.out, HG4.out⟩
        case measure => simp [intOf]; omega
      · have hlt' : ¬ (j : Int) < (n : Int) := by omega
        have hjn : j = n := by omega
        subst hjn
        generalize hkz : k + j * 2 = kz
        go_wp2
        go_ret
        exact ⟨rfl, HG.out, fun _ => ⟨b, off, rfl, HS.out, HX.out⟩⟩
set_option maxHeartbeats 4000000 in
theorem markStringS_any (S : Nat → Prop) (a : Option Addr) (n c k : Nat) (w : World) (h : Kw w S (.slice a n c) n n isStr) (hn : n ≤ 1048576) (hk0 : 0 < k) (hk : k ≤ 576460752303423488) :
    Calls Try.prog 94 #[.slice a n c, .int .i64 k] w fun e w' => e = .returned (.int .i64 ((k + n : Nat) : Int)) ∧ Marked S w a n n (mV k) isStr w' := by
  obtain ⟨a', c', h1, h2, h3, h4⟩ := h
  cases h1
  rcases Nat.eq_zero_or_pos n with hz | hp
  · clear h4
    subst hz
    go_enter Try.func94, Try.ntmps94
    go_wp2_with fail
    go_loop [1, 5] (fun x i => x = .int .i64 k ∧ i = .int .i64 (0 : Nat)) (fun _ _ => 0)
    case atStart => exact ⟨rfl, rfl⟩
    case round =>
      obtain ⟨rfl, rfl⟩ := hrel
      go_wp2
      go_ret
      exact ⟨rfl, Mk.refl _ _, fun h => absurd h (Nat.lt_irrefl _)⟩
  · obtain ⟨b, off, rfl, hS, hu, hc⟩ := h4 hp
    have HI : Hid (Mi w b off n 0 (mV k) isStr) := Mi.start hu hc
    have HS := hid hS
    clear h4 hc hu hS
    go_enter Try.func94, Try.ntmps94
    go_wp2_with fail
    go_loopw [1, 5] (fun x i wr => ∃ j : Nat, x = .int .i64 ((k + j : Nat) : Int) ∧ i = .int .i64 j ∧ j ≤ n ∧ Hid (Mi wr b off n j (mV k) isStr) ∧ Hid (Mk S w wr)) (fun _ i _ => n - (intOf i).toNat)
    case atStart => exact ⟨0, rfl, rfl, Nat.zero_le _, HI.out, Mk.refl _ _⟩
    case round =>
      obtain ⟨j, rfl, rfl, hj, HX, HG⟩ := hrel
      by_cases hlt : j < n
      · have hlt' : (j : Int) < (n : Int) := by omega
        have hj0 : (0 : Int) ≤ (j : Int) := by omega
        generalize hkz : k + j = kz
        have hkz0 : 0 < kz := by omega
        have hkz1 : kz ≤ 576460754400575488 := by omega
        have HK := hid hkz
        clear hkz
        go_wp2_with fail
        refine (markText_at kz (kz : Int) rfl wr hkz0 (by omega)).mono ?_
        rintro e w1 ⟨rfl, hb1⟩
        have HX1 := hid (HX.out.below hb1)
        have HG1 := hid (HG.out.trans (mk_below hb1))
        clear hb1 HX HG
        obtain ⟨⟨u0, c0, s0⟩, f0⟩ := HX1.out.cell hlt
        obtain ⟨u0, rfl⟩ := s0
        have HX2 : Hid (Mi (w1.setCell ⟨b, off + j, none⟩ (.string (mt kz))) b off n (j + 1) (mV k) isStr) := by rw [← HK.out]; exact HX1.out.set rfl hlt ⟨_, rfl⟩
        have HG2 : Hid (Mk S w (w1.setCell ⟨b, off + j, none⟩ (.string (mt kz)))) := by rw [← HK.out]; exact HG1.out.trans (mi_mk HX1.out HS.out rfl hlt (sim_mV k j))
        clear HX1 HG1
        generalize mt kz = m0 at *
        go_wp2
        go_roundw
        case rel => exact ⟨j + 1, by rw [show k + (j + 1) = kz + 1 by have := HK.out; omega]; go_num, by go_num, by omega, HX2.out, HG2.out⟩
        case measure => simp [intOf]; omega
      · have hlt' : ¬ (j : Int) < (n : Int) := by omega
        have hjn : j = n := by omega
        subst hjn
        generalize hkz : k + j = kz
        go_wp2
        go_ret
        exact ⟨rfl, HG.out, fun _ => ⟨b, off, rfl, HS.out, HX.out⟩⟩
set_option maxHeartbeats 4000000 in
theorem markIntS_any (S : Nat → Prop) (a : Option Addr) (n c k : Nat) (w : World) (h : Kw w S (.slice a n c) n n isInt) (hn : n ≤ 1048576) (hk0 : 0 < k) (hk : k ≤ 576460752303423488) :
    Calls Try.prog 95 #[.slice a n c, .int .i64 k] w fun e w' => e = .returned (.int .i64 ((k + n : Nat) : Int)) ∧ Marked S w a n n (mI k) isInt w' := by
  obtain ⟨a', c', h1, h2, h3, h4⟩ := h
  cases h1
  rcases Nat.eq_zero_or_pos n with hz | hp
  · clear h4
    subst hz
    go_enter Try.func95, Try.ntmps95
    go_wp2_with fail
    go_loop [1, 5] (fun x i => x = .int .i64 k ∧ i = .int .i64 (0 : Nat)) (fun _ _ => 0)
    case atStart => exact ⟨rfl, rfl⟩
    case round =>
      obtain ⟨rfl, rfl⟩ := hrel
      go_wp2
      go_ret
      exact ⟨rfl, Mk.refl _ _, fun h => absurd h (Nat.lt_irrefl _)⟩
  · obtain ⟨b, off, rfl, hS, hu, hc⟩ := h4 hp
    have HI : Hid (Mi w b off n 0 (mI k) isInt) := Mi.start hu hc
    have HS := hid hS
    clear h4 hc hu hS
    go_enter Try.func95, Try.ntmps95
    go_wp2_with fail
    go_loopw [1, 5] (fun x i wr => ∃ j : Nat, x = .int .i64 ((k + j : Nat) : Int) ∧ i = .int .i64 j ∧ j ≤ n ∧ Hid (Mi wr b off n j (mI k) isInt) ∧ Hid (Mk S w wr)) (fun _ i _ => n - (intOf i).toNat)
    case atStart => exact ⟨0, rfl, rfl, Nat.zero_le _, HI.out, Mk.refl _ _⟩
    case round =>
      obtain ⟨j, rfl, rfl, hj, HX, HG⟩ := hrel
      by_cases hlt : j < n
      · have hlt' : (j : Int) < (n : Int) := by omega
        have hj0 : (0 : Int) ≤ (j : Int) := by omega
        generalize hkz : k + j = kz
        have hkz0 : 0 < kz := by omega
        have hkz1 : kz ≤ 576460754400575488 := by omega
        have HK := hid hkz
        clear hkz
        obtain ⟨⟨u0, c0, s0⟩, f0⟩ := HX.out.cell hlt
        obtain ⟨u0, rfl⟩ := s0
        have HX2 : Hid (Mi (wr.setCell ⟨b, off + j, none⟩ (.int .i64 kz)) b off n (j + 1) (mI k) isInt) := by rw [← HK.out]; exact HX.out.set rfl hlt ⟨_, rfl⟩
        have HG2 : Hid (Mk S w (wr.setCell ⟨b, off + j, none⟩ (.int .i64 kz))) := by rw [← HK.out]; exact HG.out.trans (mi_mk HX.out HS.out rfl hlt (sim_mI k j))
        clear HX HG
        go_wp2
        go_roundw
        case rel => exact ⟨j + 1, by rw [show k + (j + 1) = kz + 1 by have := HK.out; omega]; go_num, by go_num, by omega, HX2.out, HG2.out⟩
        case measure => simp [intOf]; omega
      · have hlt' : ¬ (j : Int) < (n : Int) := by omega
        have hjn : j = n := by omega
        subst hjn
        generalize hkz : k + j = kz
        go_wp2
        go_ret
        exact ⟨rfl, HG.out, fun _ => ⟨b, off, rfl, HS.out, HX.out⟩⟩
end Go.Proofs.Ytkflneeifllpgaa
/-
  The law's helpers that write marks into a tree: nothing but its own rows turns.
-/
namespace Go.Proofs.Ytkflneeifllpgaa
open Go.RowKit
set_option linter.unusedVariables false
/-- The slice value v leads to n nodes whose cells are V's and stay; the rows behind them may be written. -/
def Nk (w : World) (S : Nat → Prop) (v : Value) (n : Nat) (V : Nat → V3) : Prop :=
  (∀ i, i < n → ∃ np nx ni, np ≤ 1048576 ∧ nx ≤ 1048576 ∧ ni ≤ 1048576 ∧ Kw w S (V i).1 np (np * 2) isStr ∧ Kw w S (V i).2.1 nx nx isStr ∧ Kw w S (V i).2.2 ni ni isInt) ∧
    ∃ a c, v = .slice a n c ∧ n ≤ c ∧ c ≤ 9223372036854775807 ∧ (0 < n → ∃ b off, a = some ⟨b, off, none⟩ ∧ Uf w b ∧ ∀ i, i < n → w.cell? ⟨b, off + i * 3, none⟩ = some (V i).1 ∧ w.cell? ⟨b, off + i * 3 + 1, none⟩ = some (V i).2.1 ∧ w.cell? ⟨b, off + i * 3 + 2, none⟩ = some (V i).2.2)
theorem Kw.slice {w : World} {S : Nat → Prop} {v : Value} {n m : Nat} {K : Value → Prop} (h : Kw w S v n m K) : ∃ a n c, v = .slice a n c := by
  obtain ⟨a, c, h, _⟩ := h
  exact ⟨a, n, c, h⟩
theorem Mk.slice {S : Nat → Prop} {w w' : World} (hm : Mk S w w') {b o n c : Nat} {a : Option Addr} (hu : Uf w b) (hc : w.cell? ⟨b, o, none⟩ = some (.slice a n c)) : w'.cell? ⟨b, o, none⟩ = some (.slice a n c) := by
  obtain ⟨u, d, e⟩ := hm.cell hu hc
  rw [d, kind_slice _ ⟨a, n, c, rfl⟩ _ _ rfl e]
theorem pcs_str (ps : List PB) : ∀ u ∈ pcs ps, isStr u := by
  induction ps with
  | nil => intro u hu; cases hu
  | cons p ps ih =>
    intro u hu
    simp only [pcs, List.mem_cons] at hu
    rcases hu with rfl | rfl | hu
    · exact ⟨_, rfl⟩
    · exact ⟨_, rfl⟩
    · exact ih u hu
theorem Nk.mk {S S' : Nat → Prop} {w w' : World} {v : Value} {n : Nat} {V : Nat → V3} (h : Nk w S v n V) (hm : Mk S' w w') : Nk w' S v n V := by
  obtain ⟨h0, a, c, h1, h2, h3, h4⟩ := h
  refine ⟨fun i hi => ?_, a, c, h1, h2, h3, fun hn => ?_⟩
  · obtain ⟨np, nx, ni, b1, b2, b3, k1, k2, k3⟩ := h0 i hi
    exact ⟨np, nx, ni, b1, b2, b3, k1.mk hm kind_str, k2.mk hm kind_str, k3.mk hm kind_int⟩
  · obtain ⟨b, off, h5, h7, h8⟩ := h4 hn
    refine ⟨b, off, h5, hm.uf h7, fun i hi => ?_⟩
    obtain ⟨np, nx, ni, b1, b2, b3, k1, k2, k3⟩ := h0 i hi
    obtain ⟨c0, c1, c2⟩ := h8 i hi
    obtain ⟨u0, d0, e0⟩ := hm.cell h7 c0
    obtain ⟨u1, d1, e1⟩ := hm.cell h7 c1
    obtain ⟨u2, d2, e2⟩ := hm.cell h7 c2
    rw [d0, d1, d2, kind_slice _ k1.slice _ _ rfl e0, kind_slice _ k2.slice _ _ rfl e1, kind_slice _ k3.slice _ _ rfl e2]
    exact ⟨rfl, rfl, rfl⟩
theorem Nk.below {S : Nat → Prop} {w w' : World} {v : Value} {n : Nat} {V : Nat → V3} (h : Nk w S v n V) (hb : Below w.heap.size w w') : Nk w' S v n V := h.mk (mk_below (S := fun _ => False) hb)
theorem nk_of {w : World} {S S' : Nat → Prop} {v : Value} {ns : List NB} (h : Nr w S v ns) (hs : smallN ns) (hS : ∀ b, S b → b < w.heap.size → S' b ∧ Uf w b) : ∃ V, Nk w S' v ns.length V := by
  obtain ⟨V, h1, h2, h3⟩ := h
  refine ⟨vAt V, fun i hi => ?_, ?_⟩
  · obtain ⟨k1, k2, k3⟩ := h3 i hi
    have hb := hs i hi
    refine ⟨_, _, _, hb.1, hb.2.1, hb.2.2, ?_, ?_, ?_⟩
    · have := kw_of (K := isStr) k1 (fun u hu => pcs_str _ u hu) hS
      rwa [pcs_length] at this
    · have := kw_of (K := isStr) k2 (fun u hu => by simp at hu; obtain ⟨s, _, rfl⟩ := hu; exact ⟨s, rfl⟩) hS
      rwa [List.length_map] at this
    · have := kw_of (K := isInt) k3 (fun u hu => by simp at hu; obtain ⟨s, _, rfl⟩ := hu; exact ⟨s, rfl⟩) hS
      rwa [List.length_map] at this
  · obtain ⟨a, c, e1, e2, e3, e4, en, e5⟩ := h2
    refine ⟨a, c, e1, e2, e3, fun hp => ?_⟩
    obtain ⟨b, off, e6, e7, e8, e9⟩ := e5 hp
    refine ⟨b, off, e6, (hS b e8 e7).2, fun i hi => ?_⟩
    obtain ⟨c0, c1, c2⟩ := ncs_at V i (by omega)
    exact ⟨e9 _ _ c0, e9 _ _ c1, e9 _ _ c2⟩
def NkPost (S : Nat → Prop) (w : World) (k n : Nat) (e : Ending) (w' : World) : Prop := ∃ k' : Nat, e = .returned (.int .i64 (k' : Int)) ∧ k ≤ k' ∧ k' ≤ k + n * 4194304 ∧ Mk S w w'
set_option maxHeartbeats 4000000 in
theorem markNodeS_any (S : Nat → Prop) (a : Option Addr) (n c k : Nat) (V : Nat → V3) (w : World) (h : Nk w S (.slice a n c) n V) (hn : n ≤ 1048576) (hk0 : 0 < k) (hk : k ≤ 1125899906842624) :
    Calls Try.prog 50 #[.slice a n c, .int .i64 k] w fun e w' => NkPost S w k n e w' := by
  have H0 := hid h
  obtain ⟨_, _, _, hsh, h2, h3, _⟩ := h
  cases hsh
  go_enter Try.func50, Try.ntmps50
  go_wp2_with fail
  go_loopw [1, 5] (fun x i wr => ∃ j q : Nat, x = .int .i64 (q : Int) ∧ i = .int .i64 j ∧ j ≤ n ∧ Hid (k ≤ q ∧ q ≤ k + j * 4194304) ∧ Hid (Nk wr S (.slice a n c) n V) ∧ Hid (Mk S w wr)) (fun _ i _ => n - (intOf i).toNat)
  case atStart => exact ⟨0, k, rfl, rfl, Nat.zero_le _, ⟨Nat.le_refl _, Nat.le_add_right _ _⟩, H0.out, Mk.refl _ _⟩
  case round =>
    obtain ⟨j, q, rfl, rfl, hj, HQ, HX, HG⟩ := hrel
    by_cases hlt : j < n
    · have hlt' : (j : Int) < (n : Int) := by omega
      have hj0 : (0 : Int) ≤ (j : Int) := by omega
      have hq1 : 0 < q := by have := HQ.out; omega
      have hq2 : q ≤ 5629499534213120 := by have := HQ.out; omega
      obtain ⟨hk', a', c', hsh, _, _, hcs⟩ := HX.out
      cases hsh
      obtain ⟨b, off, hab, huf, hcell⟩ := hcs (by omega)
      subst hab
      obtain ⟨np, nx, ni, b1, b2, b3, k1, k2, k3⟩ := hk' j hlt
      obtain ⟨c0, c1, c2⟩ := hcell j hlt
      generalize V j = vj at *
      obtain ⟨v0, v1, v2⟩ := vj
      obtain ⟨ap, np', cp, e0⟩ := k1.slice
      obtain ⟨ax, nx', cx, e1⟩ := k2.slice
      obtain ⟨ai, ni', ci, e2⟩ := k3.slice
      simp only at e0 e1 e2 k1 k2 k3 c0 c1 c2
      subst e0 e1 e2
      obtain rfl : np' = np := by obtain ⟨_, _, e, _⟩ := k1; cases e; rfl
      obtain rfl : nx' = nx := by obtain ⟨_, _, e, _⟩ := k2; cases e; rfl
      obtain rfl : ni' = ni := by obtain ⟨_, _, e, _⟩ := k3; cases e; rfl
      have K1 := hid k1
      have K2 := hid k2
      have K3 := hid k3
      have HU := hid huf
      have C1 := hid c1
      have C2 := hid c2
      clear hcs hcell hk' k1 k2 k3 huf c1 c2
      go_wp2_with fail
      refine (markPairS_any S ap np' cp q wr K1.out b1 hq1 (by omega)).mono ?_
      rintro e w1 ⟨rfl, hm, _⟩
      have HM1 := hid hm
      clear hm c0
      have c1 := HM1.out.slice HU.out C1.out
      have hs1 : q + np' * 2 ≤ 5629499536310272 := by omega
      have HQ1 : Hid (k ≤ q + np' * 2 ∧ q + np' * 2 ≤ k + j * 4194304 + 2097152) := by have := HQ.out; exact ⟨by omega, by omega⟩
      have hs0 : 0 < q + np' * 2 := by omega
      generalize q + np' * 2 = q1 at *
      go_wp2_with fail
      refine (markStringS_any S ax nx' cx q1 w1 (K2.out.mk HM1.out kind_str) b2 hs0 (by omega)).mono ?_
      rintro e w2 ⟨rfl, hm, _⟩
      have HM2 := hid (HM1.out.trans hm)
      clear hm c1
      have c2 := HM2.out.slice HU.out C2.out
      have hs2 : q1 + nx' ≤ 5629499537358848 := by omega
      have HQ2 : Hid (k ≤ q1 + nx' ∧ q1 + nx' ≤ k + j * 4194304 + 3145728) := by have := HQ1.out; exact ⟨by omega, by omega⟩
      have hs3 : 0 < q1 + nx' := by omega
      generalize q1 + nx' = q2 at *
      go_wp2_with fail
      refine (markIntS_any S ai ni' ci q2 w2 (K3.out.mk HM2.out kind_int) b3 hs3 (by omega)).mono ?_
      rintro e w3 ⟨rfl, hm, _⟩
      have HM3 := hid (HM2.out.trans hm)
      clear hm c2
      have HQ3 : Hid (k ≤ q2 + ni' ∧ q2 + ni' ≤ k + (j + 1) * 4194304) := by have := HQ2.out; exact ⟨by omega, by omega⟩
      generalize q2 + ni' = q3 at *
      go_wp2
      go_roundw
      case rel => exact ⟨j + 1, q3, rfl, by go_num, by omega, HQ3.out, HX.out.mk HM3.out, HG.out.trans HM3.out⟩
      case measure => simp [intOf]; omega
    · have hlt' : ¬ (j : Int) < (n : Int) := by omega
      have hjn : j = n := by omega
      subst hjn
      go_wp2
      go_ret
      exact ⟨q, rfl, HQ.out.1, HQ.out.2, HG.out⟩
set_option maxHeartbeats 2000000 in
theorem markTree_any (S : Nat → Prop) (a : Option Addr) (n c k : Nat) (V : Nat → V3) (w : World) (h : Nk w S (.slice a n c) n V) (hn : n ≤ 1048576) (hk0 : 0 < k) (hk : k ≤ 1125899906842624) :
    Calls Try.prog 17 #[.agg #[.slice a n c], .int .i64 k] w fun e w' => NkPost S w k n e w' := by
  have HB0 : Hid (Below w.heap.size w (w.alloc (.cells #[.slice a n c] 25))) := below_new (Below.refl _ _)
  have H0 := hid (h.below HB0.out)
  clear h
  go_enter Try.func17, Try.ntmps17
  go_wp2_with fail
  refine (markNodeS_any S a n c k V _ H0.out hn hk0 hk).mono ?_
  generalize w.alloc (.cells #[.slice a n c] 25) = U at *
  rintro e w1 ⟨k', rfl, h1, h2, h3⟩
  have HM := hid ((mk_below HB0.out).trans h3)
  have HK := hid (And.intro h1 h2)
  clear h1 h2 h3
  go_wp2
  go_ret
  exact ⟨k', rfl, HK.out.1, HK.out.2, HM.out⟩
end Go.Proofs.Ytkflneeifllpgaa
/-
  The law's helper that looks for marks in a slice of pairs: it finds them all.
-/
namespace Go.Proofs.Ytkflneeifllpgaa
open Go.RowKit
theorem kc1 {u v : World} {a0 : Addr} {x0 : Value} (h : KC u v [(a0, x0)]) : v.cell? a0 = some x0 ∧ KC u v [(a0, x0)] := ⟨h.at (by simp), h⟩
theorem kc0_1 {u : World} {a0 : Addr} {x0 : Value} (h0 : u.cell? a0 = some x0) : KC u u [(a0, x0)] := ⟨fun p hp => by simp at hp; rcases hp with rfl; assumption, Below.refl _ _⟩
theorem kc1c {u v v' : World} {a0 : Addr} {x0 : Value} (k : Below v.heap.size v v') (h : v.cell? a0 = some x0 ∧ KC u v [(a0, x0)]) : v'.cell? a0 = some x0 ∧ KC u v' [(a0, x0)] := kc1 (KC.call h.2 k)
/-- The marks lie there. -/
def Lies (w : World) (a : Option Addr) (n m : Nat) (V : Nat → Value) : Prop := 0 < n → ∃ b off, a = some ⟨b, off, none⟩ ∧ b < w.heap.size ∧ ∀ j, j < m → w.cell? ⟨b, off + j, none⟩ = some (V j)
theorem Lies.below {w w' : World} {a : Option Addr} {n m : Nat} {V : Nat → Value} (h : Lies w a n m V) (hb : Below w.heap.size w w') : Lies w' a n m V := by
  intro hn
  obtain ⟨b, off, h1, h2, h3⟩ := h hn
  exact ⟨b, off, h1, Nat.lt_of_lt_of_le h2 hb.size, fun j hj => by rw [hb.cell (p := ⟨b, off + j, none⟩) h2]; exact h3 j hj⟩
theorem Marked.lies {S : Nat → Prop} {w w' : World} {a : Option Addr} {n m : Nat} {V : Nat → Value} {K : Value → Prop} (h : Marked S w a n m V K w') : Lies w' a n m V := by
  intro hn
  obtain ⟨b, off, h1, _, T, xs, h2, _, h3⟩ := h.2 hn
  exact ⟨b, off, h1, h2.lt, fun j hj => h2.cell (h3 j hj)⟩
set_option maxHeartbeats 4000000 in
theorem heldPairS_any (a : Option Addr) (n c k : Nat) (w : World) (h : Lies w a n (n * 2) (mV k)) (hc : n ≤ c) (hn : n ≤ 1048576) (hk0 : 0 < k) (hk : k ≤ 576460752303423488) :
    Calls Try.prog 96 #[.slice a n c, .int .i64 k] w fun e w' => e = .returned (.int .i64 ((k + n * 2 : Nat) : Int)) ∧ Below w.heap.size w w' := by
  have H0 := hid h
  clear h
  go_enter Try.func96, Try.ntmps96
  go_wp2_with fail
  go_loopw [1, 5] (fun x i wr => ∃ j : Nat, x = .int .i64 ((k + j * 2 : Nat) : Int) ∧ i = .int .i64 j ∧ j ≤ n ∧ Hid (Below w.heap.size w wr)) (fun _ i _ => n - (intOf i).toNat)
  case atStart => exact ⟨0, rfl, rfl, Nat.zero_le _, Below.refl _ _⟩
  case round =>
    obtain ⟨j, rfl, rfl, hj, HB⟩ := hrel
    by_cases hlt : j < n
    · have hlt' : (j : Int) < (n : Int) := by omega
      have hj0 : (0 : Int) ≤ (j : Int) := by omega
      obtain ⟨b, off, ha, hbl, hcell⟩ := (H0.out.below HB.out) (by omega)
      subst ha
      have c0 := hcell (j * 2) (by omega)
      have c1 := hcell (j * 2 + 1) (by omega)
      simp only [mV] at c0 c1
      rw [← Nat.add_assoc] at c1
      rw [← Nat.add_assoc] at c1
      have HT1 := hid (fun w => markText_at (k + j * 2) ((k + j * 2 : Nat) : Int) rfl w (by omega) (by omega))
      have HT2 := hid (fun w => markText_at (k + j * 2 + 1) (((k + j * 2 : Nat) : Int) + 1) (by omega) w (by omega) (by omega))
      clear hcell
      generalize mt (k + j * 2) = m1 at *
      generalize mt (k + j * 2 + 1) = m2 at *
      generalize hkz : k + j * 2 = kz at *
      have hkz1 : kz ≤ 576460754400575488 := by omega
      have HK := hid hkz
      have T1 := hid (kc0_1 c0)
      have C1' := hid c1
      clear hkz c1
      go_wp2_with fail
      go_region_held3 (fun v => v.cell? ⟨b, off + j * 2, none⟩ = some (.string m1) ∧ KC wr v [(⟨b, off + j * 2, none⟩, .string m1)])
        (first | assumption | exact kc1 (T1.out.call (below_drew _)) | exact kc1c hbC (by assumption))
        (first | (go_at_call 135; refine (HT1.out _).mono ?_; rintro e w1 ⟨rfl, hbC⟩))
      rename_i hS
      have B1 := hid hS.2.bel
      have d2 : w1.cell? ⟨b, off + j * 2 + 1, none⟩ = some (.string m2) := by rw [B1.out.cell (p := ⟨b, off + j * 2 + 1, none⟩) hbl]; exact C1'.out
      have T2 := hid (kc0_1 d2)
      clear hS c0 T1 HT1 hbC
      go_wp2_with fail
      go_region_held3 (fun v => v.cell? ⟨b, off + j * 2 + 1, none⟩ = some (.string m2) ∧ KC w1 v [(⟨b, off + j * 2 + 1, none⟩, .string m2)])
        (first | assumption | exact kc1 (T2.out.call (below_drew _)) | exact kc1c hbC (by assumption))
        (first | (go_at_call 135; refine (HT2.out _).mono ?_; rintro e w2 ⟨rfl, hbC⟩))
      rename_i hS
      have B2 := hid (Below.then' (Below.then' HB.out B1.out (Nat.le_refl _)) hS.2.bel (Nat.le_refl _))
      clear hS T2 HT2 d2
      go_wp2
      go_roundw
      case rel => exact ⟨j + 1, by rw [show k + (j + 1) * 2 = kz + 2 by have := HK.out; omega]; go_num, by go_num, by omega, B2.out⟩
      case measure => simp [intOf]; omega
    · have hlt' : ¬ (j : Int) < (n : Int) := by omega
      have hjn : j = n := by omega
      subst hjn
      have HK : Hid ((k : Int) + (j : Int) * 2 = ((k + j * 2 : Nat) : Int)) := by show _ = _; omega
      generalize k + j * 2 = kz at *
      go_wp2
      go_ret
      exact ⟨by rw [HK.out]; rfl, HB.out⟩
end Go.Proofs.Ytkflneeifllpgaa
/-
  The law's helpers that look whether marks are still there, in rows of strings and of numbers.
-/
namespace Go.Proofs.Ytkflneeifllpgaa
open Go.RowKit
set_option linter.unusedVariables false
set_option maxHeartbeats 2000000 in
theorem heldStringS_any (a : Option Addr) (n c k : Nat) (w : World) (h : Lies w a n n (mV k)) (hc : n ≤ c) (hn : n ≤ 1048576) (hk0 : 0 < k) (hk : k ≤ 576460752303423488) :
    Calls Try.prog 97 #[.slice a n c, .int .i64 k] w fun e w' => e = .returned (.int .i64 ((k + n : Nat) : Int)) ∧ Below w.heap.size w w' := by
  have H0 := hid h
  clear h
  go_enter Try.func97, Try.ntmps97
  go_wp2_with fail
  go_loopw [1, 5] (fun x i wr => ∃ j : Nat, x = .int .i64 ((k + j : Nat) : Int) ∧ i = .int .i64 j ∧ j ≤ n ∧ Hid (Below w.heap.size w wr)) (fun _ i _ => n - (intOf i).toNat)
  case atStart => exact ⟨0, rfl, rfl, Nat.zero_le _, Below.refl _ _⟩
  case round =>
    obtain ⟨j, rfl, rfl, hj, HB⟩ := hrel
    by_cases hlt : j < n
    · have hlt' : (j : Int) < (n : Int) := by omega
      have hj0 : (0 : Int) ≤ (j : Int) := by omega
      obtain ⟨b, off, ha, hbl, hcell⟩ := (H0.out.below HB.out) (by omega)
      subst ha
      have c0 := hcell j (by omega)
      simp only [mV] at c0
      have HT1 := hid (fun w => markText_at (k + j) ((k + j : Nat) : Int) rfl w (by omega) (by omega))
      clear hcell
      generalize mt (k + j) = m1 at *
      generalize hkz : k + j = kz at *
      have hkz1 : kz ≤ 576460754400575488 := by omega
      have HK := hid hkz
      have T1 := hid (kc0_1 c0)
      clear hkz
      go_wp2_with fail
      go_region_held3 (fun v => v.cell? ⟨b, off + j, none⟩ = some (.string m1) ∧ KC wr v [(⟨b, off + j, none⟩, .string m1)])
        (first | assumption | exact kc1 (T1.out.call (below_drew _)) | exact kc1c hbC (by assumption))
        (first | (go_at_call 135; refine (HT1.out _).mono ?_; rintro e w1 ⟨rfl, hbC⟩))
      rename_i hS
      have B1 := hid (Below.then' HB.out hS.2.bel (Nat.le_refl _))
      clear hS c0 T1 HT1 hbC
      go_wp2
      go_roundw
      case rel => exact ⟨j + 1, by rw [show k + (j + 1) = kz + 1 by have := HK.out; omega]; go_num, by go_num, by omega, B1.out⟩
      case measure => simp [intOf]; omega
    · have hlt' : ¬ (j : Int) < (n : Int) := by omega
      have hjn : j = n := by omega
      subst hjn
      have HK : Hid ((k : Int) + (j : Int) = ((k + j : Nat) : Int)) := by show _ = _; omega
      generalize k + j = kz at *
      go_wp2
      go_ret
      exact ⟨by rw [HK.out]; rfl, HB.out⟩
set_option maxHeartbeats 2000000 in
theorem heldIntS_any (a : Option Addr) (n c k : Nat) (w : World) (h : Lies w a n n (mI k)) (hc : n ≤ c) (hn : n ≤ 1048576) (hk0 : 0 < k) (hk : k ≤ 576460752303423488) :
    Calls Try.prog 98 #[.slice a n c, .int .i64 k] w fun e w' => e = .returned (.int .i64 ((k + n : Nat) : Int)) ∧ w' = w := by
  have H0 := hid h
  clear h
  go_enter Try.func98, Try.ntmps98
  go_wp2_with fail
  go_loop [1, 5] (fun x i => ∃ j : Nat, x = .int .i64 ((k + j : Nat) : Int) ∧ i = .int .i64 j ∧ j ≤ n) (fun _ i => n - (intOf i).toNat)
  case atStart => exact ⟨0, rfl, rfl, Nat.zero_le _⟩
  case round =>
    obtain ⟨j, rfl, rfl, hj⟩ := hrel
    by_cases hlt : j < n
    · have hlt' : (j : Int) < (n : Int) := by omega
      have hj0 : (0 : Int) ≤ (j : Int) := by omega
      obtain ⟨b, off, ha, hbl, hcell⟩ := H0.out (by omega)
      subst ha
      have c0 := hcell j (by omega)
      simp only [mI] at c0
      clear hcell
      generalize hkz : k + j = kz at *
      have hkz1 : kz ≤ 576460754400575488 := by omega
      have HK := hid hkz
      clear hkz
      go_wp2
      go_round
      case rel => exact ⟨j + 1, by rw [show k + (j + 1) = kz + 1 by have := HK.out; omega]; go_num, by go_num, by omega⟩
      case measure => simp [intOf]; omega
    · have hlt' : ¬ (j : Int) < (n : Int) := by omega
      have hjn : j = n := by omega
      subst hjn
      have HK : Hid ((k : Int) + (j : Int) = ((k + j : Nat) : Int)) := by show _ = _; omega
      generalize k + j = kz at *
      go_wp2
      go_ret
      exact ⟨by rw [HK.out]; rfl, rfl⟩
end Go.Proofs.Ytkflneeifllpgaa
/-
  The law's helpers that write marks into an answer's tree and look whether they are still there: where all rows are apart, they are.
-/
namespace Go.Proofs.Ytkflneeifllpgaa
open Go.RowKit
set_option linter.unusedVariables false
def cntN (x : NB) : Nat := x.ps.length * 2 + x.keys.length + x.kids.length
def offN (ns : List NB) : Nat → Nat
  | 0 => 0
  | i + 1 => offN ns i + cntN (nAt ns i)
def LiesV (w : World) (v : Value) (n m : Nat) (V : Nat → Value) : Prop := ∃ a c, v = .slice a n c ∧ n ≤ c ∧ Lies w a n m V
theorem LiesV.to {w w' : World} {R : Nat → Prop} {v : Value} {n m : Nat} {V : Nat → Value} (h : LiesV w v n m V) (ho : Only R w w') (hR : ∀ y, v.ownBlock = some y → ¬ R y) : LiesV w' v n m V := by
  obtain ⟨a, c, rfl, h1, h2⟩ := h
  refine ⟨a, c, rfl, h1, fun hn => ?_⟩
  obtain ⟨b, off, rfl, h4, h5⟩ := h2 hn
  exact ⟨b, off, rfl, Nat.lt_of_lt_of_le h4 ho.size, fun j hj => (World.cell?_of_block (w := w) (a := ⟨b, off + j, none⟩) (ho.block b h4 (hR b rfl))).trans (h5 j hj)⟩
def LiesN (w : World) (p : V3) (x : NB) (q : Nat) : Prop := LiesV w p.1 x.ps.length (x.ps.length * 2) (mV q) ∧ LiesV w p.2.1 x.keys.length x.keys.length (mV (q + x.ps.length * 2)) ∧ LiesV w p.2.2 x.kids.length x.kids.length (mI (q + x.ps.length * 2 + x.keys.length))
theorem LiesN.to {w w' : World} {R : Nat → Prop} {p : V3} {x : NB} {q : Nat} (h : LiesN w p x q) (ho : Only R w w') (hR : ∀ y, bl p y → ¬ R y) : LiesN w' p x q := ⟨h.1.to ho (fun y e => hR y (.inl e)), h.2.1.to ho (fun y e => hR y (.inr (.inl e))), h.2.2.to ho (fun y e => hR y (.inr (.inr e)))⟩
/-- The marks stand in all rows. -/
structure MkT (w : World) (v : Value) (V : List V3) (ns : List NB) (k : Nat) : Prop where
  len : V.length = ns.length
  row : w.ownsRow 0 106 3 v ns.length (ncs V)
  lie : ∀ i, i < ns.length → LiesN w (vAt V i) (nAt ns i) (k + offN ns i)
theorem MkT.below {w w' : World} {v : Value} {V : List V3} {ns : List NB} {k : Nat} (h : MkT w v V ns k) (hb : Below w.heap.size w w') : MkT w' v V ns k := ⟨h.len, own_kept h.row (only_of_below hb (fun _ => False)) (fun _ _ h => h), fun i hi => (h.lie i hi).to (only_of_below hb (fun _ => False)) (fun _ _ h => h)⟩
def smallK (ns : List NB) : Prop := ∀ i, i < ns.length → (nAt ns i).ps.length ≤ 1000 ∧ (nAt ns i).keys.length ≤ 1000 ∧ (nAt ns i).kids.length ≤ 1000
theorem offN_le {ns : List NB} (h : smallK ns) : ∀ i, i ≤ ns.length → offN ns i ≤ i * 4000
  | 0, _ => by simp [offN]
  | i + 1, hi => by
    have := offN_le h i (by omega)
    have h2 := h i (by omega)
    simp only [offN, cntN]
    omega
theorem kw_own {w : World} {base : Nat} {e : TypeId} {size : Nat} {v : Value} {n : Nat} {xs : List Value} {K : Value → Prop} (h : w.ownsRow base e size v n xs) (hx : ∀ u ∈ xs, K u) : Kw w (fun y => v.ownBlock = some y) v n xs.length K :=
  kw_of (rw_own h (S := fun y => v.ownBlock = some y) (fun k hk _ _ => hk)) hx (fun b hb _ => ⟨hb, by
    rcases h.2 with ⟨rfl, _⟩ | ⟨g, cap, cur, rfl, _, h4, _⟩
    · cases hb
    · have e : g = b := by simpa [Value.ownBlock] using hb
      subst e
      exact ⟨_, _, h4⟩⟩)
theorem row_cells {w : World} {g n c m : Nat} {V : List V3} (h : w.ownsRow 0 106 3 (.slice (some ⟨g, 0, none⟩) n c) m (ncs V)) {i : Nat} (hi : i < V.length) : w.cell? ⟨g, i * 3, none⟩ = some (vAt V i).1 ∧ w.cell? ⟨g, i * 3 + 1, none⟩ = some (vAt V i).2.1 ∧ w.cell? ⟨g, i * 3 + 2, none⟩ = some (vAt V i).2.2 := by
  have hc := World.ownsRow.cells h (g := g) rfl
  obtain ⟨c0, c1, c2⟩ := ncs_at V i hi
  have d0 := hc _ _ c0
  have d1 := hc _ _ c1
  have d2 := hc _ _ c2
  rw [Addr.add_lit, Nat.zero_add] at d0 d1 d2
  exact ⟨d0, d1, d2⟩
theorem row_cap {w : World} {base : Nat} {e : TypeId} {size : Nat} {a : Option Addr} {n c m : Nat} {xs : List Value} (h : w.ownsRow base e size (.slice a n c) m xs) : n = m ∧ n ≤ c ∧ c ≤ 9223372036854775807 := by
  rcases h.2 with ⟨h1, h2⟩ | ⟨g, cap, cur, h1, _, _, h3, h4, _⟩
  · cases h1; exact ⟨h2.symm, Nat.le_refl _, by omega⟩
  · cases h1; unfold maxLen at h4; exact ⟨rfl, h3, by omega⟩
end Go.Proofs.Ytkflneeifllpgaa
/-
  Marks in an answer's tree, and whether they are still there: the lists of nodes.
-/
namespace Go.Proofs.Ytkflneeifllpgaa
open Go.RowKit
set_option linter.unusedVariables false
def MarkPost (w : World) (v : Value) (V : List V3) (ns : List NB) (k : Nat) (e : Ending) (w' : World) : Prop := e = .returned (.int .i64 ((k + offN ns ns.length : Nat) : Int)) ∧ MkT w' v V ns k ∧ Only (fun y => ∃ i, i < ns.length ∧ bl (vAt V i) y) w w'
set_option maxHeartbeats 4000000 in
set_option maxRecDepth 20000 in
theorem markNodeS_ex (a : Option Addr) (n c k : Nat) (V : List V3) (ns : List NB) (w : World) (h : NA w (.slice a n c) V ns) (hs : smallK ns) (hn : ns.length ≤ 100000) (hk0 : 0 < k) (hk : k ≤ 1000000) :
    Calls Try.prog 50 #[.slice a n c, .int .i64 k] w fun e w' => MarkPost w (.slice a n c) V ns k e w' := by
  obtain ⟨hnn, hnc, hcm⟩ := row_cap h.row
  have HNN := hid hnn
  have hn1 : n ≤ 100000 := by omega
  have H0 := hid h
  have HS := hid hs
  clear h hs hnn hn
  go_enter Try.func50, Try.ntmps50
  go_wp2_with fail
  go_loopw [1, 5] (fun x i wr => ∃ j q : Nat, x = .int .i64 (q : Int) ∧ i = .int .i64 j ∧ j ≤ n ∧ Hid (q = k + offN ns j) ∧ Hid (Only (fun y => ∃ i, i < j ∧ bl (vAt V i) y) w wr) ∧ Hid (∀ i, i < j → LiesN wr (vAt V i) (nAt ns i) (k + offN ns i))) (fun _ i _ => n - (intOf i).toNat)
  case atStart => exact ⟨0, k, rfl, rfl, Nat.zero_le _, rfl, Only.refl _ _, fun i hi => absurd hi (Nat.not_lt_zero _)⟩
  case round =>
    obtain ⟨j, q, rfl, rfl, hj, HQ, HO, HL⟩ := hrel
    by_cases hlt : j < n
    · have hlt' : (j : Int) < (n : Int) := by omega
      have hj0 : (0 : Int) ≤ (j : Int) := by omega
      have hjl : j < ns.length := by rw [← HNN.out]; exact hlt
      have hq1 : 0 < q := by have := HQ.out; omega
      have hq2 : q ≤ 1000000000 := by have h1 := HQ.out; have h2 := offN_le HS.out j (by omega); omega
      have hbd := HS.out j hjl
      have hown := (H0.out.own j hjl).1.to HO.out (fun y hy => by
        rintro ⟨i, hi, hb⟩
        exact H0.out.apart j i hjl (by omega) (by omega) y hy hb)
      have hrow := own_kept H0.out.row HO.out (fun y e => by
        rintro ⟨i, hi, hb⟩
        exact H0.out.off i (by omega) y hb e)
      obtain ⟨g, ha, -⟩ : ∃ g, a = some ⟨g, 0, none⟩ ∧ True := by
        obtain ⟨g, e, _⟩ := H0.out.rowAt (by omega)
        exact ⟨g, e, trivial⟩
      subst ha
      have HRW := hid hrow
      have HAP := hid (H0.out.own j hjl).2
      have HOF : Hid (∀ y, bl (vAt V j) y → y ≠ g) := fun y hy e => H0.out.off j hjl y hy (by rw [e]; rfl)
      have hvl : j < V.length := by rw [H0.out.len]; exact hjl
      obtain ⟨c0, -, -⟩ := row_cells hrow hvl
      have HOW := hid hown
      have HQN : Hid (offN ns (j + 1) = offN ns j + cntN (nAt ns j)) := rfl
      obtain ⟨ap, cp, e0⟩ := own_shape hown.1
      obtain ⟨ax, cx, e1⟩ := own_shape hown.2.1
      obtain ⟨ai, ci, e2⟩ := own_shape hown.2.2
      have HVL := hid hvl
      clear hrow hown hvl
      generalize hxx : nAt ns j = xx at *
      have HXX := hid hxx
      generalize hpp : vAt V j = pp at *
      have HPP := hid hpp
      obtain ⟨p0, p1, p2⟩ := pp
      simp only at e0 e1 e2 c0
      clear hxx hpp
      generalize hnp : xx.ps.length = np at *
      generalize hnx : xx.keys.length = nx at *
      generalize hni : xx.kids.length = ni at *
      have HLN := hid (And.intro hnp (And.intro hnx hni))
      clear hnp hnx hni
      subst e0 e1 e2
      obtain ⟨b1, b2, b3⟩ := hbd
      have K1 : Hid (Kw wr (fun y => (Value.slice ap np cp).ownBlock = some y) (.slice ap np cp) np (np * 2) isStr) := by
        have := kw_own (K := isStr) HOW.out.1 (fun u hu => pcs_str _ u hu)
        rw [pcs_length, HLN.out.1] at this
        exact this
      have K2 : Hid (Kw wr (fun y => (Value.slice ax nx cx).ownBlock = some y) (.slice ax nx cx) nx nx isStr) := by
        have := kw_own (K := isStr) HOW.out.2.1 (fun u hu => by simp at hu; obtain ⟨s, _, rfl⟩ := hu; exact ⟨s, rfl⟩)
        rw [List.length_map, HLN.out.2.1] at this
        exact this
      have K3 : Hid (Kw wr (fun y => (Value.slice ai ni ci).ownBlock = some y) (.slice ai ni ci) ni ni isInt) := by
        have := kw_own (K := isInt) HOW.out.2.2 (fun u hu => by simp at hu; obtain ⟨s, _, rfl⟩ := hu; exact ⟨s, rfl⟩)
        rw [List.length_map, HLN.out.2.2] at this
        exact this
      have hcaps : np ≤ cp ∧ nx ≤ cx ∧ ni ≤ ci := ⟨(row_cap HOW.out.1).2.1, (row_cap HOW.out.2.1).2.1, (row_cap HOW.out.2.2).2.1⟩
      have HCP := hid hcaps
      clear hcaps HOW
      go_wp2_with fail
      refine (markPairS_any _ ap np cp q wr K1.out (by omega) hq1 (by omega)).mono ?_
      rintro e w1 ⟨rfl, hm⟩
      have HM1 := hid hm.1.only
      have HL1 := hid hm.lies
      have HK2 := hid (K2.out.mk hm.1 kind_str)
      have HK3 := hid (K3.out.mk hm.1 kind_int)
      have HR1 : Hid (w1.ownsRow 0 106 3 (.slice (some ⟨g, 0, none⟩) n c) ns.length (ncs V)) := own_kept HRW.out HM1.out (fun y e e2 => HOF.out y (.inl e2) (by simpa [Value.ownBlock] using e.symm))
      obtain ⟨-, c1, -⟩ := row_cells HR1.out HVL.out
      rw [HPP.out] at c1
      simp only at c1
      have hs1 : q + np * 2 ≤ 1000010000 := by omega
      have hs0 : 0 < q + np * 2 := by omega
      have HQ1 : Hid (∃ z, z = q + np * 2) := ⟨_, rfl⟩
      clear hm K1 K2 K3 c0 HQ1
      generalize hq1' : q + np * 2 = q1 at *
      have HQ1 := hid hq1'
      clear hq1'
      go_wp2_with fail
      refine (markStringS_any _ ax nx cx q1 w1 HK2.out (by omega) hs0 (by omega)).mono ?_
      rintro e w2 ⟨rfl, hm⟩
      have HM2 := hid hm.1.only
      have HL2 := hid hm.lies
      have HK4 := hid (HK3.out.mk hm.1 kind_int)
      have HR2 : Hid (w2.ownsRow 0 106 3 (.slice (some ⟨g, 0, none⟩) n c) ns.length (ncs V)) := own_kept HR1.out HM2.out (fun y e e2 => HOF.out y (.inr (.inl e2)) (by simpa [Value.ownBlock] using e.symm))
      obtain ⟨-, -, c2⟩ := row_cells HR2.out HVL.out
      rw [HPP.out] at c2
      simp only at c2
      have hs3 : q1 + nx ≤ 1000020000 := by omega
      have hs4 : 0 < q1 + nx := by omega
      clear hm HK2 HK3 c1
      generalize hq2' : q1 + nx = q2 at *
      have HQ2 := hid hq2'
      clear hq2'
      go_wp2_with fail
      refine (markIntS_any _ ai ni ci q2 w2 HK4.out (by omega) hs4 (by omega)).mono ?_
      rintro e w3 ⟨rfl, hm⟩
      have HM3 := hid hm.1.only
      have HL3 := hid hm.lies
      clear hm HK4 c2
      have HO3 : Hid (Only (fun y => ∃ i, i < j + 1 ∧ bl (vAt V i) y) w w3) := by
        have o1 := HM1.out.mono (R' := fun y => ∃ i, i < j + 1 ∧ bl (vAt V i) y) (fun y _ e => ⟨j, by omega, by rw [HPP.out]; exact .inl e⟩)
        have o2 := HM2.out.mono (R' := fun y => ∃ i, i < j + 1 ∧ bl (vAt V i) y) (fun y _ e => ⟨j, by omega, by rw [HPP.out]; exact .inr (.inl e)⟩)
        have o3 := HM3.out.mono (R' := fun y => ∃ i, i < j + 1 ∧ bl (vAt V i) y) (fun y _ e => ⟨j, by omega, by rw [HPP.out]; exact .inr (.inr e)⟩)
        exact (((HO.out.mono (fun y _ ⟨i, hi, hb⟩ => ⟨i, by omega, hb⟩)).trans o1).trans o2).trans o3
      have HLF : Hid (∀ i, i < j + 1 → LiesN w3 (vAt V i) (nAt ns i) (k + offN ns i)) := by
        intro i hi
        by_cases e : i = j
        · subst e
          rw [HPP.out, HXX.out]
          unfold LiesN
          rw [HLN.out.1, HLN.out.2.1, HLN.out.2.2, ← HQ.out, HQ1.out, HQ2.out]
          have hap := HAP.out
          refine ⟨(LiesV.to ⟨_, cp, rfl, HCP.out.1, HL1.out⟩ HM2.out (fun y e e2 => ((hap y).1 e).1 e2)).to HM3.out (fun y e e2 => ((hap y).1 e).2 e2), LiesV.to ⟨ax, cx, rfl, HCP.out.2.1, HL2.out⟩ HM3.out (fun y e e2 => (hap y).2 e e2), ⟨ai, ci, rfl, HCP.out.2.2, HL3.out⟩⟩
        · have h1 := HL.out i (by omega)
          have hd : ∀ y, bl (vAt V i) y → ¬ bl (Value.slice ap np cp, Value.slice ax nx cx, Value.slice ai ni ci) y := fun y hy hz => H0.out.apart i j (by omega) hjl e y hy (by rw [HPP.out]; exact hz)
          exact ((h1.to HM1.out (fun y hy e => hd y hy (.inl e))).to HM2.out (fun y hy e => hd y hy (.inr (.inl e)))).to HM3.out (fun y hy e => hd y hy (.inr (.inr e)))
      have HQ3 : Hid (q2 + ni = k + offN ns (j + 1)) := by
        show _ = _
        rw [HQN.out, cntN, HLN.out.1, HLN.out.2.1, HLN.out.2.2, ← HQ2.out, ← HQ1.out, HQ.out]; omega
      go_wp2
      go_roundw
      case rel => exact ⟨j + 1, q2 + ni, by go_num, by go_num, by omega, HQ3.out, HO3.out, HLF.out⟩
      case measure => simp [intOf]; omega
    · have hlt' : ¬ (j : Int) < (n : Int) := by omega
      have hjn : j = ns.length := by rw [← HNN.out]; omega
      subst hjn
      have HF : Hid (MkT wr (.slice a n c) V ns k) := ⟨H0.out.len, own_kept H0.out.row HO.out (fun y e => by rintro ⟨i, hi, hb⟩; exact H0.out.off i hi y hb e), HL.out⟩
      clear HL
      go_wp2
      go_ret
      exact ⟨by rw [← HQ.out]; rfl, HF.out, HO.out⟩
set_option maxHeartbeats 1000000 in
theorem markTree_ex (a : Option Addr) (n c k : Nat) (V : List V3) (ns : List NB) (w : World) (h : NA w (.slice a n c) V ns) (hs : smallK ns) (hn : ns.length ≤ 100000) (hk0 : 0 < k) (hk : k ≤ 1000000) :
    Calls Try.prog 17 #[.agg #[.slice a n c], .int .i64 k] w fun e w' => MarkPost w (.slice a n c) V ns k e w' := by
  have hb := below_new (o := .cells #[.slice a n c] 25) (w := w) (Below.refl _ _)
  have HN := hid (markNodeS_ex a n c k V ns _ (h.kept hb) hs hn hk0 hk)
  have c0 := (Bk.new w 25 [.slice a n c]).cell (j := 0) rfl
  have HB := hid hb
  clear h hs hb
  go_enter Try.func17, Try.ntmps17
  go_wp2_with fail
  refine HN.out.mono ?_
  rintro e w1 ⟨rfl, hm, ho⟩
  have HM := hid hm
  have HO := hid ((only_of_below HB.out _).trans ho)
  clear hm ho
  generalize hq : k + offN ns ns.length = q at *
  have HQ := hid hq
  clear hq
  go_wp2
  go_ret
  exact ⟨by rw [HQ.out]; rfl, HM.out, HO.out⟩
set_option maxHeartbeats 4000000 in
set_option maxRecDepth 20000 in
theorem heldNodeS_any (a : Option Addr) (n c k : Nat) (V : List V3) (ns : List NB) (w : World) (h : MkT w (.slice a n c) V ns k) (hs : smallK ns) (hn : ns.length ≤ 100000) (hk0 : 0 < k) (hk : k ≤ 1000000) :
    Calls Try.prog 51 #[.slice a n c, .int .i64 k] w fun e w' => e = .returned (.int .i64 ((k + offN ns ns.length : Nat) : Int)) ∧ Below w.heap.size w w' := by
  obtain ⟨hnn, hnc, hcm⟩ := row_cap h.row
  have HNN := hid hnn
  have hn1 : n ≤ 100000 := by omega
  have H0 := hid h
  have HS := hid hs
  clear h hs hnn hn
  go_enter Try.func51, Try.ntmps51
  go_wp2_with fail
  go_loopw [1, 5] (fun x i wr => ∃ j q : Nat, x = .int .i64 (q : Int) ∧ i = .int .i64 j ∧ j ≤ n ∧ Hid (q = k + offN ns j) ∧ Hid (Below w.heap.size w wr)) (fun _ i _ => n - (intOf i).toNat)
  case atStart => exact ⟨0, k, rfl, rfl, Nat.zero_le _, rfl, Below.refl _ _⟩
  case round =>
    obtain ⟨j, q, rfl, rfl, hj, HQ, HB⟩ := hrel
    by_cases hlt : j < n
    · have hlt' : (j : Int) < (n : Int) := by omega
      have hj0 : (0 : Int) ≤ (j : Int) := by omega
      have hjl : j < ns.length := by rw [← HNN.out]; exact hlt
      have hq1 : 0 < q := by have := HQ.out; omega
      have hq2 : q ≤ 1000000000 := by have h1 := HQ.out; have h2 := offN_le HS.out j (by omega); omega
      have hbd := HS.out j hjl
      have H1 := hid (H0.out.below HB.out)
      obtain ⟨g, ha, -⟩ : ∃ g, a = some ⟨g, 0, none⟩ ∧ True := by
        rcases H0.out.row.2 with ⟨e, e2⟩ | ⟨g, cap, cur, e, _⟩
        · omega
        · cases e; exact ⟨g, rfl, trivial⟩
      subst ha
      have hvl : j < V.length := by rw [H0.out.len]; exact hjl
      have HVL := hid hvl
      obtain ⟨c0, -, -⟩ := row_cells H1.out.row hvl
      have hlie := H1.out.lie j hjl
      rw [← HQ.out] at hlie
      have HQN : Hid (offN ns (j + 1) = offN ns j + cntN (nAt ns j)) := rfl
      generalize hpp : vAt V j = pp at *
      have HPP := hid hpp
      obtain ⟨p0, p1, p2⟩ := pp
      generalize hxx : nAt ns j = xx at *
      clear hpp hxx hvl
      unfold LiesN at hlie
      generalize hnp : xx.ps.length = np at *
      generalize hnx : xx.keys.length = nx at *
      generalize hni : xx.kids.length = ni at *
      have HLN := hid (And.intro hnp (And.intro hnx hni))
      clear hnp hnx hni
      obtain ⟨⟨ap, cp, e0, hc0, l0⟩, ⟨ax, cx, e1, hc1, l1⟩, ⟨ai, ci, e2, hc2, l2⟩⟩ := hlie
      simp only at e0 e1 e2 c0
      subst e0 e1 e2
      have L1 := hid l1
      have L2 := hid l2
      obtain ⟨b1, b2, b3⟩ := hbd
      have HP := hid (heldPairS_any ap np cp q wr l0 hc0 (by omega) hq1 (by omega))
      clear l0 l1 l2
      go_wp2_with fail
      refine HP.out.mono ?_
      rintro e w1 ⟨rfl, hb⟩
      have HB1 := hid (Below.then' HB.out hb (Nat.le_refl _))
      obtain ⟨-, c1, -⟩ := row_cells (H1.out.below hb).row HVL.out
      rw [HPP.out] at c1
      simp only at c1
      have M1 := hid (L1.out.below hb)
      have M2 := hid (L2.out.below hb)
      have H2 := hid (H1.out.below hb)
      have hs1 : q + np * 2 ≤ 1000010000 := by omega
      have hs0 : 0 < q + np * 2 := by omega
      clear hb c0 HP L1 L2 H1
      generalize hq1' : q + np * 2 = q1 at *
      have HQ1 := hid hq1'
      have HP2 := hid (heldStringS_any ax nx cx q1 w1 M1.out hc1 (by omega) hs0 (by omega))
      clear hq1'
      have hn0 : ¬ (q1 : Int) < 0 := by omega
      go_wp2_with fail
      refine HP2.out.mono ?_
      rintro e w2 ⟨rfl, hb⟩
      have HB2 := hid (Below.then' HB1.out hb (Nat.le_refl _))
      obtain ⟨-, -, c2⟩ := row_cells (H2.out.below hb).row HVL.out
      rw [HPP.out] at c2
      simp only at c2
      have N2 := hid (M2.out.below hb)
      have hs3 : q1 + nx ≤ 1000020000 := by omega
      have hs4 : 0 < q1 + nx := by omega
      clear hb c1 HP2 M1 M2 H2
      generalize hq2' : q1 + nx = q2 at *
      have HQ2 := hid hq2'
      have HP3 := hid (heldIntS_any ai ni ci q2 w2 N2.out hc2 (by omega) hs4 (by omega))
      clear hq2'
      have hn2 : ¬ (q2 : Int) < 0 := by omega
      go_wp2_with fail
      refine HP3.out.mono ?_
      rintro e w3 ⟨rfl, rfl⟩
      have HQ3 : Hid (q2 + ni = k + offN ns (j + 1)) := by
        show _ = _
        rw [HQN.out, cntN, HLN.out.1, HLN.out.2.1, HLN.out.2.2, ← HQ2.out, ← HQ1.out, HQ.out]; omega
      have hs5 : q2 + ni ≤ 1000030000 := by omega
      clear c2 HP3 N2
      generalize hq3' : q2 + ni = q3 at *
      clear hq3'
      have hn3 : ¬ (q3 : Int) < 0 := by omega
      go_wp2
      go_roundw
      case rel => exact ⟨j + 1, q3, rfl, by go_num, by omega, HQ3.out, HB2.out⟩
      case measure => simp [intOf]; omega
    · have hlt' : ¬ (j : Int) < (n : Int) := by omega
      have hjn : j = ns.length := by rw [← HNN.out]; omega
      subst hjn
      have HE : Hid ((k : Int) + (offN ns ns.length : Int) = (q : Int)) := by have := HQ.out; show _ = _; omega
      go_wp2
      go_ret
      exact ⟨by rw [HE.out]; rfl, HB.out⟩
set_option maxHeartbeats 1000000 in
theorem heldTree_any (a : Option Addr) (n c k : Nat) (V : List V3) (ns : List NB) (w : World) (h : MkT w (.slice a n c) V ns k) (hs : smallK ns) (hn : ns.length ≤ 100000) (hk0 : 0 < k) (hk : k ≤ 1000000) :
    Calls Try.prog 18 #[.agg #[.slice a n c], .int .i64 k] w fun e w' => e = .returned (.int .i64 ((k + offN ns ns.length : Nat) : Int)) ∧ Below w.heap.size w w' := by
  have hb := below_new (o := .cells #[.slice a n c] 25) (w := w) (Below.refl _ _)
  have HN := hid (heldNodeS_any a n c k V ns _ (h.below hb) hs hn hk0 hk)
  have c0 := (Bk.new w 25 [.slice a n c]).cell (j := 0) rfl
  have HB := hid hb
  clear h hs hb
  go_enter Try.func18, Try.ntmps18
  go_wp2_with fail
  refine HN.out.mono ?_
  rintro e w1 ⟨rfl, hb⟩
  have HB1 := hid (Below.then' HB.out hb (Nat.le_refl _))
  clear hb
  generalize hq : k + offN ns ns.length = q at *
  have HQ := hid hq
  clear hq
  have hn0 : ¬ (q : Int) < 0 := by omega
  go_wp2
  go_ret
  exact ⟨by rw [HQ.out]; rfl, HB1.out⟩
mutual
theorem lay_small : ∀ (t : T) (r : Bool) (a : Nat), t.full r = true → ∀ x ∈ lay a t, x.ps.length ≤ 1000 ∧ x.keys.length ≤ 1000 ∧ x.kids.length ≤ 1000
  | .mk ps ks, r, a, h, x, hx => by
    by_cases hk : ks = []
    · subst hk
      have := (full_lf h).1
      simp [lay] at hx
      subst hx
      simp; omega
    · obtain ⟨_, h2, rfl, h3⟩ := full_br h hk
      simp only [lay, hk, if_false, List.mem_cons] at hx
      rcases hx with rfl | hx
      · simp only [List.length_nil, List.length_map, List.length_tail, places_length]; omega
      · exact layL_small ks (a + 1) h3 x hx
theorem layL_small : ∀ (ks : List T) (a : Nat), (∀ k ∈ ks, k.full false = true) → ∀ x ∈ layL a ks, x.ps.length ≤ 1000 ∧ x.keys.length ≤ 1000 ∧ x.kids.length ≤ 1000
  | [], a, _, x, hx => by simp [layL] at hx
  | k :: ks, a, h, x, hx => by
    rw [layL] at hx
    rcases List.mem_append.1 hx with hx | hx
    · exact lay_small k false a (h k (by simp)) x hx
    · exact layL_small ks (a + k.size) (fun y hy => h y (by simp [hy])) x hx
end
theorem smallK_of {ns : List NB} (h : ∀ x ∈ ns, x.ps.length ≤ 1000 ∧ x.keys.length ≤ 1000 ∧ x.kids.length ≤ 1000) : smallK ns := by
  intro i hi
  have : nAt ns i ∈ ns := by simp [nAt, hi]
  exact h _ this
end Go.Proofs.Ytkflneeifllpgaa
/-
  l03Tree and TreePut of the specification.
-/
namespace Go.Proofs.Ytkflneeifllpgaa
open Go.RowKit
/-- A root that has one kid alone gives way to it. -/
def strip1 (t : T) : T := if t.ks.length = 1 then tAt t.ks 0 else t
theorem strip1_id {t : T} (h : t.ks.length ≠ 1) : strip1 t = t := by rw [strip1, if_neg h]
def kidsN (w : World) (a : Addr) : Nat := match w.cell? a with
  | some (.slice _ n _) => if n = 1 then 1 else 0
  | _ => 0
/-- A list of nodes that is there to be read, in new blocks. -/
def NewN (w w' : World) (v : Value) (ms : List NB) : Prop := Nr w' (fun y => w.heap.size ≤ y ∧ y < w'.heap.size) v ms
theorem NewN.kept {w w' w2 : World} {v : Value} {ms : List NB} (h : NewN w w' v ms) (hb : Below w'.heap.size w' w2) : NewN w w2 v ms := (Nr.below h hb).mono (fun _ hy _ => ⟨hy.1, Nat.lt_of_lt_of_le hy.2 hb.size⟩)
theorem NewN.nil (w w' : World) : NewN w w' (.slice none 0 0) [] := ⟨[], rfl, rw_nil _ _, fun i hi => by simp at hi⟩
def NewK (w w' : World) (v : Value) (ms : List NB) : Prop := NrK w' (fun y => w.heap.size ≤ y ∧ y < w'.heap.size) v ms
theorem NewK.nil (w w' : World) : NewK w w' (.slice none 0 0) [] := nrK_nil _ _
theorem NewK.new {w w' : World} {v : Value} {ms : List NB} (h : NewK w w' v ms) : NewN w w' v ms := NrK.nr h
def STree (w : World) (ms : List NB) (e : Ending) (w' : World) : Prop := ∃ a n c, e = .returned (.agg #[.slice a n c]) ∧ NewK w w' (.slice a n c) ms ∧ Below w.heap.size w w'
set_option maxHeartbeats 2000000 in
set_option maxRecDepth 20000 in
theorem specTree_any (S : Nat → Prop) (lf : Bool) (ap ak : Option Addr) (np cp nk ck : Nat) (t : T) (w : World) (h : Sub w S lf (.slice ap np cp) (.slice ak nk ck) t) (h1 : (strip1 t).ks.length ≠ 1) (hf : (strip1 t).full true = true ∨ strip1 t = bareT) (hz : (strip1 t).size ≤ 1048576) :
    Calls Try.prog 44 #[.agg #[.bool lf, .slice ap np cp, .slice ak nk ck]] w fun e w' => STree w (layT (strip1 t)) e w' := by
  obtain ⟨_, _, _, _, _, _, e1, e2, -, -, -, -, -, -⟩ := h.shape
  cases e1
  cases e2
  have H0 : Hid (Sub w (fun y => y < w.heap.size) lf (.slice ap np cp) (.slice ak nk ck) t) := h.mono (fun y hy hl => hl)
  have HB0 : Hid (Below w.heap.size w ((w.alloc (.cells #[.bool lf, .slice ap np cp, .slice ak nk ck] 74)).alloc (.cells #[.slice none 0 0] 25))) := below_new (below_new (Below.refl _ _))
  have K0 : Hid (Bk ((w.alloc (.cells #[.bool lf, .slice ap np cp, .slice ak nk ck] 74)).alloc (.cells #[.slice none 0 0] 25)) w.heap.size 74 [.bool lf, .slice ap np cp, .slice ak nk ck]) := (Bk.new w 74 [.bool lf, .slice ap np cp, .slice ak nk ck]).alloc _
  have KR : Hid (Bk ((w.alloc (.cells #[.bool lf, .slice ap np cp, .slice ak nk ck] 74)).alloc (.cells #[.slice none 0 0] 25)) (w.heap.size + 1) 25 [.slice none 0 0]) := by
    have := Bk.new (w.alloc (.cells #[.bool lf, .slice ap np cp, .slice ak nk ck] 74)) 25 [.slice none 0 0]
    show Bk _ _ _ _
    simpa using this
  have HS := hid h1
  have HF := hid hf
  have HZ := hid hz
  clear h h1 hf hz
  generalize hT : strip1 t = T0 at *
  have HT := hid hT
  clear hT
  go_enter Try.func44, Try.ntmps44
  go_wp2_with fail
  go_loopw [3] (fun x wr => ∃ (l : Bool) (a0 b0 : Option Addr) (n0 c0 m0 d0 : Nat) (t' : T), x = x ∧ Hid (Bk wr w.heap.size 74 [.bool l, .slice a0 n0 c0, .slice b0 m0 d0]) ∧ Hid (Sub wr (fun y => y < w.heap.size) l (.slice a0 n0 c0) (.slice b0 m0 d0) t') ∧ Hid (strip1 t' = T0) ∧ Hid (Bk wr (w.heap.size + 1) 25 [.slice none 0 0]) ∧ Hid (Below w.heap.size w wr)) (fun _ wr => kidsN wr ⟨w.heap.size, 2, none⟩)
  case atStart => exact ⟨lf, ap, ak, np, cp, nk, ck, t, rfl, K0.out, H0.out.kept HB0.out, HT.out, KR.out, HB0.out⟩
  case round =>
    obtain ⟨l, a0, b0, n0, c0, m0, d0, t', -, HK, HSB, HE, HR, HB⟩ := hrel
    obtain ⟨_, _, _, _, _, _, e1, e2, HN0, HM0, -, -, hl, -⟩ := HSB.out.shape
    cases e1
    cases e2
    have q0 := HK.out.cell (j := 0) rfl
    have q1 := HK.out.cell (j := 1) rfl
    have q2 := HK.out.cell (j := 2) rfl
    have f0 := HK.out.free 0
    have f1 := HK.out.free 1
    have f2 := HK.out.free 2
    by_cases hm : m0 = 1
    · have hl' : l = false := by rw [hl, hm]; rfl
      subst hm
      subst hl'
      obtain ⟨g, off, hab, hg1, hg2, hkid⟩ := HSB.out.kids (by omega)
      subst hab
      obtain ⟨l9, ap9, np9, cp9, ak9, nk9, ck9, x0, x1, x2, hs9⟩ := hkid 0 (by omega)
      simp only [Nat.zero_mul, Nat.add_zero] at x0 x1 x2
      have hE : tAt t'.ks 0 = T0 := by
        have := HE.out
        rwa [strip1, if_pos HM0.out.symm] at this
      have HN9 : Hid (nk9 ≠ 1) := by
        obtain ⟨_, _, _, _, _, _, _, e2, -, h5, -⟩ := hs9.shape
        cases e2
        rw [hE] at h5
        show _ ≠ _
        rw [h5.out]; exact HS.out
      rw [hE] at hs9
      have hon : Only (fun y => y = w.heap.size) wr (((wr.setCell ⟨w.heap.size, 0, none⟩ (.bool l9)).setCell ⟨w.heap.size, 1, none⟩ (.slice ap9 np9 cp9)).setCell ⟨w.heap.size, 2, none⟩ (.slice ak9 nk9 ck9)) := ((only_set (R := fun y => y = w.heap.size) rfl _).trans (only_set (R := fun y => y = w.heap.size) rfl _)).trans (only_set (R := fun y => y = w.heap.size) rfl _)
      have HK2 := hid (((HK.out.set 0 (.bool l9)).set 1 (.slice ap9 np9 cp9)).set 2 (.slice ak9 nk9 ck9))
      have HS2 := hid (hs9.to hon (fun y hy _ e => by omega))
      have HR2 := hid (HR.out.to hon (by omega))
      have HB2 : Hid (Below w.heap.size w (((wr.setCell ⟨w.heap.size, 0, none⟩ (.bool l9)).setCell ⟨w.heap.size, 1, none⟩ (.slice ap9 np9 cp9)).setCell ⟨w.heap.size, 2, none⟩ (.slice ak9 nk9 ck9))) := HB.out.trans (hon.below HB.out.size (fun b hb e => by omega))
      have HM1 : Hid (kidsN wr ⟨w.heap.size, 2, none⟩ = 1) := by show _ = _; rw [kidsN, q2]; simp
      have HM2 : Hid (kidsN (((wr.setCell ⟨w.heap.size, 0, none⟩ (.bool l9)).setCell ⟨w.heap.size, 1, none⟩ (.slice ap9 np9 cp9)).setCell ⟨w.heap.size, 2, none⟩ (.slice ak9 nk9 ck9)) ⟨w.heap.size, 2, none⟩ = 0) := by
        show _ = _
        rw [kidsN, HK2.out.cell (j := 2) rfl]
        simp [HN9.out]
      clear hkid hs9 hon hg1 hg2 hl hE
      go_wp2
      go_roundw
      case rel => exact ⟨l9, ap9, ak9, np9, cp9, nk9, ck9, T0, trivial, HK2.out, HS2.out, strip1_id HS.out, HR2.out, HB2.out⟩
      case measure => rw [HM2.out, HM1.out]; omega
    · have hE : t' = T0 := by
        have := HE.out
        rwa [strip1, if_neg (by rw [← HM0.out]; exact hm)] at this
      subst hE
      have hm' : ¬ (m0 : Int) = 1 := by omega
      have r0 := HR.out.cell (j := 0) rfl
      have rf := HR.out.free 0
      by_cases hm0 : m0 = 0
      · have hl' : l = true := by rw [hl, hm0]; rfl
        subst hm0 hl'
        clear hl
        by_cases hn0 : n0 = 0
        · subst hn0
          have HBA : Hid (layT t' = []) := by
            show _ = _
            rw [layT, if_pos]
            exact decide_eq_true (by have h1 := HN0.out; have h2 := HM0.out; omega)
          have HFB : Hid (Below w.heap.size w (wr.setCell ⟨w.heap.size + 1, 0, none⟩ (.slice none 0 0))) := ⟨HB.out.os, HB.out.tape, HB.out.output, by simp [World.setCell]; exact HB.out.size, fun i hi => (Below.heap_setCell _ _ _ _ (show i ≠ w.heap.size + 1 by omega)).trans (HB.out.block i hi)⟩
          have d1 := (HR.out.set 0 (.slice none 0 0)).cell (j := 0) rfl
          go_wp2
          refine bodyPost_ret (v := .agg #[.slice none 0 0]) ?_ rfl ?_
          · refine results_tree1 rfl _ _ _ rfl ?_
            exact d1
          · rw [HBA.out]; exact ⟨_, _, _, rfl, NewK.nil _ _, HFB.out⟩
        · have hn1 : ¬ (n0 : Int) = 0 := by omega
          have HFU : Hid (t'.full true = true) := by
            rcases HF.out with h | h
            · exact h
            · exfalso
              have h1 := HN0.out
              have h2 := HM0.out
              rw [h] at h1 h2
              simp [bareT, T.ps, T.ks] at h1 h2
              omega
          have HBA : Hid (layT t' = lay 0 t') := by
            show _ = _
            rw [layT, if_neg]
            rw [show t'.bare = false from decide_eq_false (by have h1 := HN0.out; have h2 := HM0.out; omega)]; simp
          go_wp2_with fail
          refine (specLay_any t' (fun y => y < w.heap.size) true a0 b0 n0 c0 0 d0 wr (fun _ => False) none 0 0 [] true HSB.out (fun y _ => by simp [Value.ownBlock]) (no_nil wr) (by have := HZ.out; simpa using this) HFU.out).mono ?_
          rintro e w2 ⟨v2, rfl, hN2, ho2, hv2⟩
          have hb2 : Below wr.heap.size wr w2 := ho2.below (Nat.le_refl _) (fun b _ h => by cases h)
          obtain ⟨a2, n2, c2, e2, -⟩ := hN2.shape
          subst e2
          simp only [List.nil_append, List.length_nil] at hN2
          have HR2 := hid (HR.out.below hb2)
          have HB2 := hid (Below.then' HB.out hb2 (Nat.le_refl _))
          have hwr : w.heap.size + 1 < wr.heap.size := HR.out.lt
          have HFB : Hid (Below w.heap.size w (w2.setCell ⟨w.heap.size + 1, 0, none⟩ (.slice a2 n2 c2))) := ⟨HB2.out.os, HB2.out.tape, HB2.out.output, by simp [World.setCell]; exact HB2.out.size, fun i hi => (Below.heap_setCell _ _ _ _ (show i ≠ w.heap.size + 1 by omega)).trans (HB2.out.block i hi)⟩
          have HNN : Hid (NewK w (w2.setCell ⟨w.heap.size + 1, 0, none⟩ (.slice a2 n2 c2)) (.slice a2 n2 c2) (layT t')) := by
            show NewK _ _ _ _
            rw [HBA.out]
            have hzz : (w2.setCell ⟨w.heap.size + 1, 0, none⟩ (.slice a2 n2 c2)).heap.size = w2.heap.size := by simp [World.setCell]
            have hlt := hN2.lt
            obtain ⟨V, n1, n2', n3, n4, n5⟩ := hN2
            have hn : NrK w2 (fun y => wr.heap.size ≤ y) (.slice a2 n2 c2) (lay 0 t') := by
              refine ⟨V, n1, ⟨n2', fun y hy => ?_⟩, fun i hi => (n3 i hi).mono (fun y hy _ => ?_), n5, fun i hi y hy => (n4 y ((n3 i hi).2.2.2 y hy)).2⟩
              · rcases hv2 y hy with h | h
                · cases h
                · exact h
              · rcases hy with h | h
                · exact h.elim
                · exact h.1
            refine (hn.to (only_set (R := fun y => y = w.heap.size + 1) rfl _) (fun y hy _ e => by omega)).mono (fun y hy hl => ⟨by omega, hl⟩)
          have e0 := HR2.out.cell (j := 0) rfl
          have e1 := HR2.out.free 0
          have d1 := (HR2.out.set 0 (.slice a2 n2 c2)).cell (j := 0) rfl
          clear hN2 ho2 hv2 hb2 r0 rf
          go_wp2
          refine bodyPost_ret (v := .agg #[.slice a2 n2 c2]) ?_ rfl ?_
          · refine results_tree1 rfl _ _ _ rfl ?_
            exact d1
          · exact ⟨_, _, _, rfl, HNN.out, HFB.out⟩
      · have hl' : l = false := by rw [hl]; exact decide_eq_false hm0
        subst hl'
        clear hl
        have HFU : Hid (t'.full true = true) := by
          rcases HF.out with h | h
          · exact h
          · exfalso
            have h1 := HN0.out
            have h2 := HM0.out
            rw [h] at h1 h2
            simp [bareT, T.ps, T.ks] at h1 h2
            omega
        have HBA : Hid (layT t' = lay 0 t') := by
          show _ = _
          rw [layT, if_neg]
          rw [show t'.bare = false from decide_eq_false (by have h1 := HN0.out; have h2 := HM0.out; omega)]; simp
        go_wp2_with fail
        refine (specLay_any t' (fun y => y < w.heap.size) false a0 b0 n0 c0 m0 d0 wr (fun _ => False) none 0 0 [] true HSB.out (fun y _ => by simp [Value.ownBlock]) (no_nil wr) (by have := HZ.out; simpa using this) HFU.out).mono ?_
        rintro e w2 ⟨v2, rfl, hN2, ho2, hv2⟩
        have hb2 : Below wr.heap.size wr w2 := ho2.below (Nat.le_refl _) (fun b _ h => by cases h)
        obtain ⟨a2, n2, c2, e2, -⟩ := hN2.shape
        subst e2
        simp only [List.nil_append, List.length_nil] at hN2
        have HR2 := hid (HR.out.below hb2)
        have HB2 := hid (Below.then' HB.out hb2 (Nat.le_refl _))
        have hwr : w.heap.size + 1 < wr.heap.size := HR.out.lt
        have HFB : Hid (Below w.heap.size w (w2.setCell ⟨w.heap.size + 1, 0, none⟩ (.slice a2 n2 c2))) := ⟨HB2.out.os, HB2.out.tape, HB2.out.output, by simp [World.setCell]; exact HB2.out.size, fun i hi => (Below.heap_setCell _ _ _ _ (show i ≠ w.heap.size + 1 by omega)).trans (HB2.out.block i hi)⟩
        have HNN : Hid (NewK w (w2.setCell ⟨w.heap.size + 1, 0, none⟩ (.slice a2 n2 c2)) (.slice a2 n2 c2) (layT t')) := by
          show NewK _ _ _ _
          rw [HBA.out]
          have hzz : (w2.setCell ⟨w.heap.size + 1, 0, none⟩ (.slice a2 n2 c2)).heap.size = w2.heap.size := by simp [World.setCell]
          have hlt := hN2.lt
          obtain ⟨V, n1, n2', n3, n4, n5⟩ := hN2
          have hn : NrK w2 (fun y => wr.heap.size ≤ y) (.slice a2 n2 c2) (lay 0 t') := by
            refine ⟨V, n1, ⟨n2', fun y hy => ?_⟩, fun i hi => (n3 i hi).mono (fun y hy _ => ?_), n5, fun i hi y hy => (n4 y ((n3 i hi).2.2.2 y hy)).2⟩
            · rcases hv2 y hy with h | h
              · cases h
              · exact h
            · rcases hy with h | h
              · exact h.elim
              · exact h.1
          refine (hn.to (only_set (R := fun y => y = w.heap.size + 1) rfl _) (fun y hy _ e => by omega)).mono (fun y hy hl => ⟨by omega, hl⟩)
        have e0 := HR2.out.cell (j := 0) rfl
        have e1 := HR2.out.free 0
        have d1 := (HR2.out.set 0 (.slice a2 n2 c2)).cell (j := 0) rfl
        clear hN2 ho2 hv2 hb2 r0 rf
        go_wp2
        refine bodyPost_ret (v := .agg #[.slice a2 n2 c2]) ?_ rfl ?_
        · refine results_tree1 rfl _ _ _ rfl ?_
          exact d1
        · exact ⟨_, _, _, rfl, HNN.out, HFB.out⟩
theorem strip1_two (x : T × T) : strip1 (.mk [] (two x)) = rootT x := by
  unfold strip1 rootT two
  cases h : x.2.bare with
  | true => simp [T.ks, tAt]
  | false => simp [T.ks]
theorem two_all (x : T × T) : (T.mk [] (two x)).all = (rootT x).all := by
  have : (T.mk [] (two x)).all = allL (two x) := by simp [T.all]
  rw [this]
  unfold rootT two
  cases h : x.2.bare with
  | true => simp [allL]
  | false => simp [allL, T.all]
theorem full_ks1 {t : T} {r : Bool} (h : t.full r = true) : t.ks.length ≠ 1 := by
  obtain ⟨ps, ks⟩ := t
  simp only [T.ks]
  by_cases hk : ks = []
  · subst hk; simp
  · obtain ⟨h1, _⟩ := full_br h hk; omega
def STPost (o : Option (List NB)) (w : World) (e : Ending) (w' : World) : Prop := ∃ a n c, e = .returned (.tuple #[.agg #[.slice a n c], .bool o.isSome]) ∧ NewK w w' (.slice a n c) (o.getD []) ∧ Below w.heap.size w w'
set_option maxHeartbeats 2000000 in
set_option maxRecDepth 20000 in
theorem specTreePut_any (ns : List NB) (hlen : ns.length ≤ 1048576) (hsm : smallN ns) (S : Nat → Prop) (an : Option Addr) (nn cn : Nat) (k v : ByteArray) (w : World) (hN : Nr w S (.slice an nn cn) ns) :
    Calls Try.prog 8 #[.agg #[.slice an nn cn], .string k, .string v] w fun e w' => STPost (putV ns k v) w e w' := by
  have h1 := hN.len.2.1
  have h2 := hN.len.2.2
  have HB0 : Hid (Below w.heap.size w ((w.alloc (.cells #[.slice an nn cn] 25)).alloc (.cells #[.slice none 0 0] 25))) := below_new (below_new (Below.refl _ _))
  have K0 : Hid (Bk ((w.alloc (.cells #[.slice an nn cn] 25)).alloc (.cells #[.slice none 0 0] 25)) (w.heap.size + 1) 25 [.slice none 0 0]) := by
    have := Bk.new (w.alloc (.cells #[.slice an nn cn] 25)) 25 [.slice none 0 0]
    show Bk _ _ _ _
    simpa using this
  have KA : Hid (Bk ((w.alloc (.cells #[.slice an nn cn] 25)).alloc (.cells #[.slice none 0 0] 25)) w.heap.size 25 [.slice an nn cn]) := (Bk.new w 25 [.slice an nn cn]).alloc _
  have a0 := KA.out.cell (j := 0) rfl
  have H0 := hid (hN.below HB0.out)
  have HLS := hid (And.intro hlen hsm)
  clear hN hlen hsm
  go_enter Try.func8, Try.ntmps8
  go_wp2_with fail
  refine (specTreeOk_any ns HLS.out.1 HLS.out.2 S an nn cn _ H0.out).mono ?_
  generalize (w.alloc (.cells #[.slice an nn cn] 25)).alloc (.cells #[.slice none 0 0] 25) = U at *
  rintro e w1 ⟨rfl, hb⟩
  have HB1 := hid (HB0.out.trans (hb.mono HB0.out.size))
  have K1 := hid (K0.out.below hb)
  have KA1 := hid (KA.out.below hb)
  have H1 := hid (H0.out.below hb)
  clear hb HB0 K0 H0 KA a0
  have HNO : Hid (∀ (X : World) (u : Value), Below w.heap.size w X → Below w.heap.size w (X.setCell ⟨w.heap.size + 1, 0, none⟩ u)) := fun X u hb => ⟨hb.os, hb.tape, hb.output, by simp [World.setCell]; exact hb.size, fun i hi => (Below.heap_setCell _ _ _ _ (show i ≠ w.heap.size + 1 by omega)).trans (hb.block i hi)⟩
  rw [spOk_eq]
  have c0 := K1.out.cell (j := 0) rfl
  have f0 := K1.out.free 0
  have d0 := (K1.out.set 0 (.slice none 0 0)).cell (j := 0) rfl
  cases hr : okT ns with
  | none =>
    have HR : Hid (putV ns k v = none) := by show _ = _; rw [putV, hr]
    clear hr
    go_wp2
    refine bodyPost_ret (v := .tuple #[.agg #[.slice none 0 0], .bool false]) ?_ rfl ?_
    · refine results_tree2 rfl _ _ _ rfl rfl ?_
      exact d0
    · rw [HR.out]; exact ⟨_, _, _, rfl, NewK.nil _ _, HNO.out _ _ HB1.out⟩
  | some t =>
    have HR : Hid (putV ns k v = if kOk k = true ∧ vOk v = true then (if 200 < (rootT (putF t.lv t (k, v))).all.length then none else some (layT (rootT (putF t.lv t (k, v))))) else none) := by show _ = _; rw [putV, hr]
    cases hk : kOk k with
    | false =>
      have HR2 : Hid (putV ns k v = none) := by show _ = _; rw [HR.out, hk]; simp
      have HKO := hid (specKeyOk_is k false hk)
      clear hk HR hr
      go_wp2_with fail
      refine (HKO.out w1).mono ?_
      rintro e w2 ⟨rfl, rfl⟩
      go_wp2
      refine bodyPost_ret (v := .tuple #[.agg #[.slice none 0 0], .bool false]) ?_ rfl ?_
      · refine results_tree2 rfl _ _ _ rfl rfl ?_
        exact d0
      · rw [HR2.out]; exact ⟨_, _, _, rfl, NewK.nil _ _, HNO.out _ _ HB1.out⟩
    | true =>
      have HKO := hid (specKeyOk_is k true hk)
      cases hv : vOk v with
      | false =>
        have HR2 : Hid (putV ns k v = none) := by show _ = _; rw [HR.out, hv]; simp
        have HVO := hid (specValOk_any v)
        rw [hv] at HVO
        clear hk hv HR hr
        go_wp2_with fail
        refine (HKO.out w1).mono ?_
        rintro e w2 ⟨rfl, rfl⟩
        go_wp2_with fail
        refine (HVO.out w2).mono ?_
        rintro e w3 ⟨rfl, rfl⟩
        go_wp2
        refine bodyPost_ret (v := .tuple #[.agg #[.slice none 0 0], .bool false]) ?_ rfl ?_
        · refine results_tree2 rfl _ _ _ rfl rfl ?_
          exact d0
        · rw [HR2.out]; exact ⟨_, _, _, rfl, NewK.nil _ _, HNO.out _ _ HB1.out⟩
      | true =>
        have HR2 : Hid (putV ns k v = if 200 < (rootT (putF t.lv t (k, v))).all.length then none else some (layT (rootT (putF t.lv t (k, v))))) := by show _ = _; rw [HR.out, hk, hv]; simp
        have HVO := hid (specValOk_any v)
        rw [hv] at HVO
        have HOK := hid (okT_facts hr)
        have HG := hid (okT_putIn hr)
        have HRO := hid (rootT_ok hr (k, v))
        have HSZ := hid (putV_size hr (k, v))
        have HPS : Hid (putS t.lv t (k, v) = two (putF t.lv t (k, v))) := putS_eq t.lv true t (k, v) HG.out
        clear hk hv HR hr
        have g0 := KA1.out.cell (j := 0) rfl
        go_wp2_with fail
        refine (HKO.out w1).mono ?_
        rintro e w2 ⟨rfl, rfl⟩
        go_wp2_with fail
        refine (HVO.out w2).mono ?_
        rintro e w3 ⟨rfl, rfl⟩
        clear HKO HVO c0 f0 d0
        go_wp2_with fail
        refine (specRoot_any ns HLS.out.1 HLS.out.2 S an nn cn w2 H1.out).mono ?_
        rintro e w3 ⟨hpost, hb⟩
        rw [HOK.out.root] at hpost
        obtain ⟨lf, ap, np, cp, ak, nk, ck, rfl, hs⟩ := hpost
        have HS3 := hid hs
        have HB3 := hid (Below.then' HB1.out hb (Nat.le_refl _))
        have K3 := hid (K1.out.below hb)
        clear hs hb K1 KA1 g0 HB1 H1
        have HB4 := hid (below_new (o := .cells #[.bool lf, .slice ap np cp, .slice ak nk ck] 74) (w := w3) (Below.refl _ _))
        have KS := hid (Bk.new w3 74 [.bool lf, .slice ap np cp, .slice ak nk ck])
        have k0 := KS.out.cell (j := 0) rfl
        have k1 := KS.out.cell (j := 1) rfl
        have k2 := KS.out.cell (j := 2) rfl
        go_wp2_with fail
        refine (specPut_any t.lv true _ lf ap ak np cp nk ck t k v _ (HS3.out.kept HB4.out) HG.out).mono ?_
        rintro e w5 ⟨v5, rfl, hR5, hb5⟩
        rw [HPS.out] at hR5
        obtain ⟨a5, n5, c5, e5, -⟩ := hR5.shape
        subst e5
        have HR5 : Hid (SubR w5 (fun _ => True) (.slice a5 n5 c5) (two (putF t.lv t (k, v)))) := hR5.mono (fun _ _ _ => trivial)
        have HB5 := hid (Below.then' (Below.then' HB3.out HB4.out (Nat.le_refl _)) hb5 (Nat.le_refl _))
        have K5 := hid ((K3.out.below HB4.out).below hb5)
        clear hR5 hb5 k0 k1 k2 KS HB4 HB3 K3 HS3
        generalize putF t.lv t (k, v) = rr at *
        have HST := hid (strip1_two rr)
        have HAL := hid (two_all rr)
        have HNE : Hid (two rr ≠ []) := fun e => by have := (two_len rr).1; rw [e] at this; simp at this
        have HB6 := hid (below_new (o := .cells #[.bool false, .slice none 0 0, .slice a5 n5 c5] 74) (w := w5) (Below.refl _ _))
        have KS := hid (Bk.new w5 74 [.bool false, .slice none 0 0, .slice a5 n5 c5])
        have HS6 := hid ((HR5.out.kept HB6.out).sub HNE.out)
        have HBW := hid (Below.then' HB5.out HB6.out (Nat.le_refl _))
        have K6 := hid (K5.out.below HB6.out)
        have k0 := KS.out.cell (j := 0) rfl
        have k1 := KS.out.cell (j := 1) rfl
        have k2 := KS.out.cell (j := 2) rfl
        go_wp2_with fail
        refine (specPairs_any (.mk [] (two rr)) _ false none a5 0 0 n5 c5 _ HS6.out (by rw [HAL.out]; have := HSZ.out.1; omega)).mono ?_
        generalize w5.alloc (.cells #[.bool false, .slice none 0 0, .slice a5 n5 c5] 74) = X at *
        rintro e w7 ⟨v7, rfl, hO, hb⟩
        rw [HAL.out] at hO
        obtain ⟨a7, n7, c7, e7, hn7⟩ := hO.shape'
        subst e7
        have HN7 := hid hn7.out
        have hn5 : n7 ≤ 201 := by have := HN7.out; have := HSZ.out.1; omega
        have HB7 := hid (Below.then' HBW.out hb (Nat.le_refl _))
        have K7 := hid (K6.out.below hb)
        have KS7 := hid (KS.out.below hb)
        have HS7 := hid (HS6.out.kept hb)
        clear hO hb hn7 k0 k1 k2 KS K6 HS6 HBW HB6 HB5 K5 HR5
        have c0 := K7.out.cell (j := 0) rfl
        have f0 := K7.out.free 0
        have d0 := (K7.out.set 0 (.slice none 0 0)).cell (j := 0) rfl
        have k0 := KS7.out.cell (j := 0) rfl
        have k1 := KS7.out.cell (j := 1) rfl
        have k2 := KS7.out.cell (j := 2) rfl
        by_cases hlen : 200 < n7
        · have hlen' : (200 : Int) < (n7 : Int) := by omega
          have HR3 : Hid (putV ns k v = none) := by
            show _ = _
            rw [HR2.out, if_pos]
            have := HN7.out; omega
          go_wp2
          refine bodyPost_ret (v := .tuple #[.agg #[.slice none 0 0], .bool false]) ?_ rfl ?_
          · refine results_tree2 rfl _ _ _ rfl rfl ?_
            exact d0
          · rw [HR3.out]; exact ⟨_, _, _, rfl, NewK.nil _ _, HNO.out _ _ HB7.out⟩
        · have hlen' : ¬ (200 : Int) < (n7 : Int) := by omega
          have HR3 : Hid (putV ns k v = some (layT (rootT rr))) := by
            show _ = _
            rw [HR2.out, if_neg]
            have := HN7.out; omega
          clear d0
          go_wp2_with fail
          refine (specTree_any _ false none a5 0 0 n5 c5 (.mk [] (two rr)) w7 HS7.out (by rw [HST.out]; exact full_ks1 HRO.out.1) (by rw [HST.out]; exact .inl HRO.out.1) (by rw [HST.out]; have := HSZ.out.2.1; omega)).mono ?_
          rintro e w8 ⟨a8, n8, c8, rfl, hN8, hb8⟩
          rw [HST.out] at hN8
          have K8 := hid (K7.out.below hb8)
          have HB8 := hid (Below.then' HB7.out hb8 (Nat.le_refl _))
          have hwx : w.heap.size + 1 < w7.heap.size := K7.out.lt
          have HNN : Hid (NewK w (w8.setCell ⟨w.heap.size + 1, 0, none⟩ (.slice a8 n8 c8)) (.slice a8 n8 c8) (layT (rootT rr))) := (NrK.to hN8 (only_set (R := fun y => y = w.heap.size + 1) rfl _) (fun y hy _ e => by have := hy.1; omega)).mono (fun y hy hl => ⟨by have := hy.1; omega, hl⟩)
          have e0 := K8.out.cell (j := 0) rfl
          have e1 := K8.out.free 0
          have d1 := (K8.out.set 0 (.slice a8 n8 c8)).cell (j := 0) rfl
          clear hN8 hb8 c0 f0
          go_wp2
          refine bodyPost_ret (v := .tuple #[.agg #[.slice a8 n8 c8], .bool true]) ?_ rfl ?_
          · refine results_tree2 rfl _ _ _ rfl rfl ?_
            exact d1
          · rw [HR3.out]; exact ⟨_, _, _, rfl, HNN.out, HNO.out _ _ HB8.out⟩
theorem layT_small {t : T} (h : t.full true = true ∨ t = bareT) (hz : t.size ≤ 1000) : smallK (layT t) ∧ (layT t).length ≤ 100000 := by
  unfold layT
  split
  · exact ⟨fun i hi => by simp at hi, by simp⟩
  · rename_i hb
    rcases h with h | h
    · exact ⟨smallK_of (lay_small t true 0 h), by rw [lay_length]; omega⟩
    · rw [h] at hb; exact absurd rfl hb
theorem putV_small (ns : List NB) (k v : ByteArray) : smallK ((putV ns k v).getD []) ∧ ((putV ns k v).getD []).length ≤ 100000 := by
  have h0 : smallK (([] : List NB)) ∧ ([] : List NB).length ≤ 100000 := ⟨fun i hi => by simp at hi, by simp⟩
  unfold putV
  split
  · exact h0
  · rename_i t h
    split
    · split
      · exact h0
      · exact layT_small (.inl (rootT_ok h (k, v)).1) (by have := (putV_size h (k, v)).2.1; omega)
    · exact h0
end Go.Proofs.Ytkflneeifllpgaa
/-
  l03Drop and TreeDrop of the specification.
-/
namespace Go.Proofs.Ytkflneeifllpgaa
open Go.RowKit
theorem results_sub1 {fn : Func} {p : Tmp} (h : fn.results = #[.cell p 74]) (tmps : Array Value) (w : World) (g : Nat) {x y z : Value} (hp : tmps.getD p undef = .pointer (some ⟨g, 0, none⟩)) (c0 : w.cell? ⟨g, 0, none⟩ = some x) (c1 : w.cell? ⟨g, 1, none⟩ = some y) (c2 : w.cell? ⟨g, 2, none⟩ = some z) : (results fn tmps).run Try.prog w = .ok (.agg #[x, y, z]) w := by
  have hp' : tmps[p]?.getD undef = .pointer (some ⟨g, 0, none⟩) := by simpa using hp
  simp [results, h, hp', asAddr, load_sub c0 c1 c2]
def DropPost (w : World) (S : Nat → Prop) (t : T) (e : Ending) (w' : World) : Prop := ∃ lf ap np cp ak nk ck, e = .returned (.agg #[.bool lf, .slice ap np cp, .slice ak nk ck]) ∧ Sub w' (fun y => S y ∨ w.heap.size ≤ y) lf (.slice ap np cp) (.slice ak nk ck) t ∧ Below w.heap.size w w'
/-- What is kept: the sub, the cells of the answer. -/
structure DrI (w wr : World) (lf : Bool) (pv kv : Value) : Prop where
  s : Bk wr w.heap.size 74 [.bool lf, pv, kv]
  r : Bk wr (w.heap.size + 1) 74 [.bool false, .slice none 0 0, .slice none 0 0]
  b : Below w.heap.size w wr
  z : w.heap.size + 2 ≤ wr.heap.size
theorem DrI.keep {w wr w1 : World} {lf : Bool} {pv kv : Value} (h : DrI w wr lf pv kv) (hb : Below wr.heap.size wr w1) : DrI w w1 lf pv kv := ⟨h.s.below hb, h.r.below hb, Below.then' h.b hb (Nat.le_refl _), Nat.le_trans h.z hb.size⟩
theorem DrI.only {w u w2 : World} {lf : Bool} {pv kv : Value} {R : Nat → Prop} (h : DrI w u lf pv kv) (hon : Only R u w2) (ho : ∀ x, R x → w.heap.size + 2 ≤ x) : DrI w w2 lf pv kv :=
  ⟨h.s.to hon (fun e => by have := ho _ e; omega), h.r.to hon (fun e => by have := ho _ e; omega), h.b.trans (hon.below h.b.size (fun b hb e => by have := ho _ e; omega)), Nat.le_trans h.z hon.size⟩
theorem DrI.grow {w u w2 : World} {lf : Bool} {pv kv : Value} {o : Option Nat} (h : DrI w u lf pv kv) (hg : u.grownBy w2 o) (ho : ∀ x, o = some x → w.heap.size + 2 ≤ x) : DrI w w2 lf pv kv := h.only (only_of_grown hg (R := fun y => o = some y) (fun _ e => e)) (fun x e => ho x e)
theorem dri_start (w : World) (lf : Bool) (pv kv : Value) : DrI w ((w.alloc (.cells #[.bool lf, pv, kv] 74)).alloc (.cells #[.bool false, .slice none 0 0, .slice none 0 0] 74)) lf pv kv := by
  refine ⟨(Bk.new w 74 [.bool lf, pv, kv]).alloc _, ?_, below_new (below_new (Below.refl _ _)), by simp⟩
  have := Bk.new (w.alloc (.cells #[.bool lf, pv, kv] 74)) 74 [.bool false, .slice none 0 0, .slice none 0 0]
  simpa using this
/-- The answer is stored. -/
theorem DrI.done {w wr : World} {lf lf' : Bool} {pv kv pv' kv' : Value} {S : Nat → Prop} {t : T} (h : DrI w wr lf pv kv) (hs : Sub wr (fun y => S y ∨ w.heap.size + 2 ≤ y) lf' pv' kv' t) (hS : ∀ y, S y → y < w.heap.size) :
    Sub (((wr.setCell ⟨w.heap.size + 1, 0, none⟩ (.bool lf')).setCell ⟨w.heap.size + 1, 1, none⟩ pv').setCell ⟨w.heap.size + 1, 2, none⟩ kv') (fun y => S y ∨ w.heap.size ≤ y) lf' pv' kv' t ∧ Below w.heap.size w (((wr.setCell ⟨w.heap.size + 1, 0, none⟩ (.bool lf')).setCell ⟨w.heap.size + 1, 1, none⟩ pv').setCell ⟨w.heap.size + 1, 2, none⟩ kv') ∧
      Bk (((wr.setCell ⟨w.heap.size + 1, 0, none⟩ (.bool lf')).setCell ⟨w.heap.size + 1, 1, none⟩ pv').setCell ⟨w.heap.size + 1, 2, none⟩ kv') (w.heap.size + 1) 74 [.bool lf', pv', kv'] := by
  have hon : Only (fun y => y = w.heap.size + 1) wr (((wr.setCell ⟨w.heap.size + 1, 0, none⟩ (.bool lf')).setCell ⟨w.heap.size + 1, 1, none⟩ pv').setCell ⟨w.heap.size + 1, 2, none⟩ kv') := ((only_set (R := fun y => y = w.heap.size + 1) rfl _).trans (only_set (R := fun y => y = w.heap.size + 1) rfl _)).trans (only_set (R := fun y => y = w.heap.size + 1) rfl _)
  refine ⟨(hs.to hon (fun y hy _ e => ?_)).mono (fun y hy _ => hy.imp id (fun h => by omega)), h.b.trans (hon.below h.b.size (fun b hb e => by omega)), ((h.r.set 0 _).set 1 _).set 2 _⟩
  rcases hy with hy | hy
  · have := hS y hy; omega
  · omega
theorem row_setB {w : World} {base : Nat} {E : TypeId} {s g n c m : Nat} {xs : List Value} (h : w.ownsRow base E s (.slice (some ⟨g, 0, none⟩) n c) m xs) (j : Nat) (u : Value) : (w.setCell ⟨g, j, none⟩ u).ownsRow base E s (.slice (some ⟨g, 0, none⟩) n c) m (xs.set j u) := by
  obtain ⟨k1, k2⟩ := h
  rcases k2 with ⟨k2, _⟩ | ⟨g', cap, cur, e, k3, k4, k5, k6, k7, k8⟩
  · cases k2
  · cases e
    refine ⟨by simpa using k1, .inr ⟨g, c, cur.setIfInBounds j u, rfl, k3, ?_, k5, k6, by simpa using k7, ?_⟩⟩
    · simp [World.setCell, Array.getElem?_modify, k4]
    · rw [← k8]
      simp only [Array.toList_setIfInBounds, List.take_set]
theorem mkV_set (L : Nat → Bool) (P K : Nat → Value) (n q : Nat) (l : Bool) (p k : Value) : (mkV L P K n).set q (.bool l, p, k) = mkV (fun i => if i = q then l else L i) (fun i => if i = q then p else P i) (fun i => if i = q then k else K i) n := by
  apply List.ext_getElem
  · simp [mkV]
  · intro i h1 h2
    rw [List.getElem_set]
    by_cases e : q = i
    · subst e; simp [mkV]
    · rw [if_neg e]; simp [mkV, Ne.symm e]
/-- One sub of the row is stored anew. -/
theorem SO.set {w : World} {base g n c q : Nat} {S S' : Nat → Prop} {ts : List T} {lf : Bool} {pv kv : Value} {t : T} (h : SO w base S (.slice (some ⟨g, 0, none⟩) n c) ts) (hq : q < ts.length) (hs : Sub w S' lf pv kv t) (hg : ∀ y, S' y → y ≠ g) :
    SO (((w.setCell ⟨g, q * 3, none⟩ (.bool lf)).setCell ⟨g, q * 3 + 1, none⟩ pv).setCell ⟨g, q * 3 + 2, none⟩ kv) base (fun y => S y ∨ S' y) (.slice (some ⟨g, 0, none⟩) n c) (ts.set q t) := by
  obtain ⟨L, P, K, h1, h2, h3⟩ := h
  have hon : Only (fun y => y = g) w (((w.setCell ⟨g, q * 3, none⟩ (.bool lf)).setCell ⟨g, q * 3 + 1, none⟩ pv).setCell ⟨g, q * 3 + 2, none⟩ kv) := ((only_set (R := fun y => y = g) rfl _).trans (only_set (R := fun y => y = g) rfl _)).trans (only_set (R := fun y => y = g) rfl _)
  have hS : ∀ y, S y → y ≠ g := fun y hy e => h3 y hy (by rw [e]; rfl)
  refine ⟨fun i => if i = q then lf else L i, fun i => if i = q then pv else P i, fun i => if i = q then kv else K i, ?_, fun i hi => ?_, fun y hy e => ?_⟩
  · rw [List.length_set, ← mkV_set, ncs_set _ _ _ (by rw [mkV_length]; exact hq)]
    exact row_setB (row_setB (row_setB h1 _ _) _ _) _ _
  · rw [List.length_set] at hi
    by_cases e : i = q
    · subst e
      simp only [if_true]
      rw [show tAt (ts.set i t) i = t by simp [tAt, hi]]
      exact (hs.to hon (fun y hy _ => hg y hy)).mono (fun y hy _ => .inr hy)
    · simp only [e, if_false]
      rw [show tAt (ts.set q t) i = tAt ts i by simp [tAt, Ne.symm e]]
      exact ((h2 i hi).to hon (fun y hy _ => hS y hy)).mono (fun y hy _ => .inl hy)
  · have e' : g = y := by simpa [Value.ownBlock] using e
    rcases hy with hy | hy
    · exact hS y hy e'.symm
    · exact hg y hy e'.symm
/-- What is read of a row of subs. -/
theorem SO.at {w : World} {base : Nat} {S : Nat → Prop} {a : Option Addr} {n c : Nat} {ts : List T} (h : SO w base S (.slice a n c) ts) (hp : 0 < ts.length) : ∃ g, a = some ⟨g, 0, none⟩ ∧ (∀ o, w.frozen? ⟨g, o, none⟩ = false) ∧ ∀ i, i < ts.length → ∃ l ap np cp ak nk ck,
    w.cell? ⟨g, i * 3, none⟩ = some (.bool l) ∧ w.cell? ⟨g, i * 3 + 1, none⟩ = some (.slice ap np cp) ∧ w.cell? ⟨g, i * 3 + 2, none⟩ = some (.slice ak nk ck) ∧ Sub w S l (.slice ap np cp) (.slice ak nk ck) (tAt ts i) := by
  obtain ⟨L, P, K, h1, h2, h3⟩ := h
  rcases h1.2 with ⟨_, h0⟩ | ⟨g, cap, cur, e, _, k4, _⟩
  · omega
  cases e
  refine ⟨g, rfl, fun o => by simp [World.frozen?, k4], fun i hi => ?_⟩
  have hc := World.ownsRow.cells h1 (g := g) rfl
  obtain ⟨c0, c1, c2⟩ := ncs_at (mkV L P K ts.length) i (by rw [mkV_length]; exact hi)
  rw [mkV_at _ _ _ _ _ hi] at c0 c1 c2
  have d0 := hc _ _ c0
  have d1 := hc _ _ c1
  have d2 := hc _ _ c2
  rw [Addr.add_lit, Nat.zero_add] at d0 d1 d2
  have hs := h2 i hi
  obtain ⟨ap, np, cp, ak, nk, ck, e1, e2, _⟩ := hs.shape
  simp only at d1 d2
  rw [e1] at d1 hs
  rw [e2] at d2 hs
  exact ⟨L i, ap, np, cp, ak, nk, ck, d0, d1, d2, hs⟩
theorem ev_leaf {h : Nat} {a b : T} (ha : Ev h a) (hb : Ev h b) : a.ks = [] ↔ b.ks = [] := by
  obtain ⟨pa, ka⟩ := a
  obtain ⟨pb, kb⟩ := b
  cases h with
  | zero => exact ha.elim
  | succ h =>
    rcases ha with ⟨rfl, rfl⟩ | ⟨h1, h2⟩
    · rcases hb with ⟨rfl, _⟩ | ⟨h3, h4⟩
      · exact ⟨fun _ => rfl, fun _ => rfl⟩
      · obtain ⟨x, hx⟩ := List.exists_mem_of_ne_nil kb h3
        exact (h4 x hx).elim
    · rcases hb with ⟨rfl, rfl⟩ | ⟨h3, h4⟩
      · obtain ⟨x, hx⟩ := List.exists_mem_of_ne_nil ka h1
        exact (h2 x hx).elim
      · exact ⟨fun e => absurd e h1, fun e => absurd e h3⟩
theorem delS_cons (x : PB) (l : List PB) (k : ByteArray) : delS (x :: l) k = (if x.1 = k then [] else [x]) ++ delS l k := by
  unfold delS
  rw [List.filter_cons]
  by_cases e : x.1 = k <;> simp [e]
set_option maxHeartbeats 2000000 in
set_option maxRecDepth 20000 in
theorem specDrop_leaf (S : Nat → Prop) (ap ak : Option Addr) (np cp ck : Nat) (t : T) (k : ByteArray) (w : World) (h : Sub w S true (.slice ap np cp) (.slice ak 0 ck) t) (hs : t.ps.length ≤ 4) :
    Calls Try.prog 140 #[.agg #[.bool true, .slice ap np cp, .slice ak 0 ck], .string k] w fun e w' => DropPost w S (.mk (delS t.ps k) []) e w' := by
  obtain ⟨_, _, _, _, _, _, e1, e2, HNP, HNK, b1, b2, -, hP⟩ := h.shape
  cases e1
  cases e2
  have hnp : np ≤ 4 := by rw [HNP.out]; exact hs
  have HP := hid hP
  have HI0 := hid (dri_start w true (.slice ap np cp) (.slice ak 0 ck))
  have c0 := HI0.out.s.cell (j := 0) rfl
  have HIb := hid (HI0.out.keep (below_new (o := .cells #[] 35) (Below.refl _ _)))
  have c1 := HIb.out.s.cell (j := 1) rfl
  have HO0 : Hid (Ow (((w.alloc (.cells #[.bool true, .slice ap np cp, .slice ak 0 ck] 74)).alloc (.cells #[.bool false, .slice none 0 0, .slice none 0 0] 74)).alloc (.cells #[] 35)) (w.heap.size + 2) (.slice (some ⟨w.heap.size + 2, 0, none⟩) 0 0) []) := by
    have := ow_new ((w.alloc (.cells #[.bool true, .slice ap np cp, .slice ak 0 ck] 74)).alloc (.cells #[.bool false, .slice none 0 0, .slice none 0 0] 74)) (w.heap.size + 2) (by simp)
    show Ow _ _ _ _
    simpa using this
  clear h hs b1 b2 hP
  go_enter Try.func140, Try.ntmps140
  go_wp2_with fail
  go_loopw [5, 17] (fun x z wr => ∃ (i : Nat) (a : Option Addr) (n c : Nat) (l : List PB), i ≤ np ∧ x = .slice a n c ∧ z = .int .i64 (i : Int) ∧ Hid (DrI w wr true (.slice ap np cp) (.slice ak 0 ck)) ∧ Hid (Ow wr (w.heap.size + 2) (.slice a n c) l) ∧ Hid (l ++ delS (t.ps.drop i) k = delS t.ps k) ∧ Hid (l.length ≤ i)) (fun _ z _ => np - (intOf z).toNat)
  case atStart => exact ⟨0, _, _, _, [], Nat.zero_le _, rfl, rfl, HIb.out, by have := HO0.out; show Ow _ _ _ _; simpa using this, rfl, Nat.zero_le _⟩
  case round =>
    obtain ⟨i, a, n, c, l, hi, rfl, rfl, HI, HO, HE, HLL⟩ := hrel
    by_cases hlt : i < np
    · have hlt' : (i : Int) < (np : Int) := by omega
      have hi0 : (0 : Int) ≤ (i : Int) := by omega
      obtain ⟨g, off, hap, _, _, hc⟩ := (HP.out.below HI.out.b).at (by omega)
      subst hap
      obtain ⟨x0, x1⟩ := hc i hlt
      have HD : Hid (t.ps.drop i = pAtB t.ps i :: t.ps.drop (i + 1)) := drop_pAtB (by rw [← HNP.out]; exact hlt)
      rw [HD.out, delS_cons] at HE
      clear hc
      generalize pAtB t.ps i = xx at *
      obtain ⟨y0, y1⟩ := xx
      simp only at x0 x1 HE
      have hbx := below_new (o := .cells #[.string y0, .string y1] 35) (w := wr) (Below.refl _ _)
      have HIX := hid (HI.out.keep hbx)
      have HOX := hid (HO.out.kept hbx)
      have KX := hid (Bk.new wr 35 [.string y0, .string y1])
      have k0 := KX.out.cell (j := 0) rfl
      have k1 := KX.out.cell (j := 1) rfl
      clear hbx
      by_cases e : y0 = k
      · have HEQ : Hid (l ++ delS (t.ps.drop (i + 1)) k = delS t.ps k) := by have := HE.out; show _ = _; simpa [e] using this
        subst e
        clear HE
        go_wp2
        go_roundw
        case rel => exact ⟨i + 1, a, n, c, l, by omega, rfl, by go_num, HIX.out, HOX.out, HEQ.out, by have := HLL.out; show _ ≤ _; omega⟩
        case measure => simp [intOf]; omega
      · have HEQ : Hid ((l ++ [(y0, y1)]) ++ delS (t.ps.drop (i + 1)) k = delS t.ps k) := by have := HE.out; show _ = _; simpa [e] using this
        have hne : (y0.toList == k.toList) = false := by
          rw [beq_eq_false_iff_ne]; exact fun h => e (str_ext h)
        have hby := below_new (o := .cells #[.string y0, .string y1] 35) (w := wr.alloc (.cells #[.string y0, .string y1] 35)) (Below.refl _ _)
        have HIY := hid (HIX.out.keep hby)
        have HOY := hid (HOX.out.kept hby)
        have HPa : Hid (Pr ((wr.alloc (.cells #[.string y0, .string y1] 35)).alloc (.cells #[.string y0, .string y1] 35)) (fun _ => True) (.slice (some ⟨wr.heap.size + 1, 0, none⟩) 1 1) [(y0, y1)]) := by
          have := (Bk.new (wr.alloc (.cells #[.string y0, .string y1] 35)) 35 [.string y0, .string y1]).pr (n := 1) (ps := [(y0, y1)]) rfl (by omega) (fun _ => True) trivial
          have hz : (wr.alloc (.cells #[.string y0, .string y1] 35)).heap.size = wr.heap.size + 1 := by simp
          rw [hz] at this
          exact this
        clear HE hby
        go_wp2_with (at_builtin; refine wpList_append_pairs rfl _ _ rfl (w.heap.size + 2) _ _ rfl HOY.out (fun _ => True) _ [(y0, y1)] rfl HPa.out ?q1 ?q2 ?_)
        case q1 => have := HLL.out; simp; omega
        case q2 => have h9 := HI.out.z; first | omega | (simp; omega)
        intro v2 w2 hO2 hg2
        obtain ⟨a2, n2, c2, e2, -⟩ := hO2.shape'
        subst e2
        have HI2 := hid (HIY.out.grow hg2 (fun x e => (World.ownsRow.lt HOY.out x e).1))
        have HO2 := hid hO2
        clear hO2 hg2
        go_wp2
        go_roundw
        case rel => exact ⟨i + 1, a2, n2, c2, _, by omega, rfl, by go_num, HI2.out, HO2.out, HEQ.out, by have := HLL.out; show _ ≤ _; simp; omega⟩
        case measure => simp [intOf]; omega
    · have hlt' : ¬ (i : Int) < (np : Int) := by omega
      have HD : Hid (t.ps.drop i = []) := List.drop_eq_nil_of_le (by rw [← HNP.out]; omega)
      rw [HD.out] at HE
      have HEQ : Hid (delS t.ps k = l) := by have := HE.out; show _ = _; simpa [delS] using this.symm
      have r0 := HI.out.r.cell (j := 0) rfl
      have r1 := HI.out.r.cell (j := 1) rfl
      have r2 := HI.out.r.cell (j := 2) rfl
      have rf0 := HI.out.r.free 0
      have rf1 := HI.out.r.free 1
      have rf2 := HI.out.r.free 2
      have HD2 := hid (HI.out.done (S := fun y => S y ∧ y < w.heap.size) (Sub.leafOf (HO.out.pr (fun y _ h1 _ => .inr h1))) (fun y hy => hy.2))
      have z0 := HD2.out.2.2.cell (j := 0) rfl
      have z1 := HD2.out.2.2.cell (j := 1) rfl
      have z2 := HD2.out.2.2.cell (j := 2) rfl
      clear HE HP
      go_wp2
      refine bodyPost_ret (v := .agg #[.bool true, .slice a n c, .slice none 0 0]) ?_ rfl ?_
      · refine results_sub1 rfl _ _ _ rfl ?_ ?_ ?_
        · exact z0
        · exact z1
        · exact z2
      · refine ⟨_, _, _, _, _, _, _, rfl, ?_, HD2.out.2.1⟩
        rw [HEQ.out]
        exact HD2.out.1.mono (fun y hy _ => hy.imp (fun h => h.1) id)
end Go.Proofs.Ytkflneeifllpgaa
/-
  l03Drop of the specification: it drops as the plain function drops.
-/
namespace Go.Proofs.Ytkflneeifllpgaa
open Go.RowKit
set_option maxHeartbeats 4000000 in
set_option maxRecDepth 20000 in
theorem specDrop_any : ∀ (f : Nat) (r : Bool) (S : Nat → Prop) (lf : Bool) (ap ak : Option Addr) (np cp nk ck : Nat) (t : T) (k : ByteArray) (w : World), Sub w S lf (.slice ap np cp) (.slice ak nk ck) t → PutIn f r t →
    Calls Try.prog 140 #[.agg #[.bool lf, .slice ap np cp, .slice ak nk ck], .string k] w fun e w' => DropPost w S (dropS f t k) e w' := by
  intro f
  induction f with
  | zero => intro r S lf ap ak np cp nk ck t k w _ g; exact g.ev.elim
  | succ f ih =>
  intro r S lf ap ak np cp nk ck t k w h g
  obtain ⟨_, _, _, _, _, _, e1, e2, HNP, HNK, b1, b2, hlf, -⟩ := h.shape
  cases e1
  cases e2
  by_cases hk : t.ks = []
  · have hn : nk = 0 := by rw [HNK.out, hk]; rfl
    have hl : lf = true := by rw [hlf, hn]; rfl
    have HF : dropS (f + 1) t k = .mk (delS t.ps k) [] := by rw [dropS, if_pos hk]
    subst hn hl
    rw [HF]
    exact specDrop_leaf S ap ak np cp ck t k w h (by obtain ⟨ps, ks⟩ := t; cases (show ks = [] from hk); exact g.leaf.2.1)
  · obtain ⟨ps, ks⟩ := t
    simp only [T.ks, T.ps] at hk HNK HNP
    obtain ⟨hp0, hl1, hl2, hf3, he4, ha5⟩ := g.kids hk
    have hn0 : nk ≠ 0 := by rw [HNK.out]; have := List.length_pos_iff.2 hk; omega
    have hl : lf = false := by rw [hlf]; exact decide_eq_false hn0
    subst hl
    obtain ⟨hq, _, _⟩ := kidOf_spec k hk
    have hw := wayOf_eq (k := k) hk hf3 ha5
    have HF : Hid (dropS (f + 1) (.mk ps ks) k = if (dropS f (tAt ks (wayOf ks k)) k).poor = true then .mk [] ((ks.set (wayOf ks k) (dropS f (tAt ks (wayOf ks k)) k)).take (max (wayOf ks k) 1 - 1) ++ togS (tAt (ks.set (wayOf ks k) (dropS f (tAt ks (wayOf ks k)) k)) (max (wayOf ks k) 1 - 1)) (tAt (ks.set (wayOf ks k) (dropS f (tAt ks (wayOf ks k)) k)) (max (wayOf ks k) 1)) ++ (ks.set (wayOf ks k) (dropS f (tAt ks (wayOf ks k)) k)).drop (max (wayOf ks k) 1 + 1)) else .mk [] (ks.set (wayOf ks k) (dropS f (tAt ks (wayOf ks k)) k))) := by
      show _ = _; rw [dropS, if_neg (show ¬ (T.mk ps ks).ks = [] from hk)]; rfl
    have HKG := hid (g.kid hk k)
    rw [← hw] at hq HKG
    have HNR : Hid (Near f (dropS f (tAt ks (wayOf ks k)) k) (delP (tAt ks (wayOf ks k)).all k)) := by
      show Near _ _ _
      rw [dropS_eq f false _ k HKG.out]; exact (dropF_out f false _ k HKG.out).1
    have HKF : Hid (∀ x ∈ ks, x.full false = true) := hf3
    have HKE : Hid (∀ x ∈ ks, Ev f x) := he4
    have H0 : Hid (Sub w (fun y => S y ∧ y < w.heap.size) false (.slice ap np cp) (.slice ak nk ck) (.mk ps ks)) := h.mono (fun y hy hl => ⟨hy, hl⟩)
    have hnk : nk ≤ 4 := by rw [HNK.out]; exact hl2
    have hnk2 : 2 ≤ nk := by rw [HNK.out]; exact hl1
    have HWY := hid (fun (w' : World) (h' : Sub w' (fun y => S y ∧ y < w.heap.size) false (.slice ap np cp) (.slice ak nk ck) (.mk ps ks)) => specWay_any _ false ap ak np cp nk ck (.mk ps ks) k w' h' (by simp only [T.ks]; omega))
    simp only [T.ks] at HWY
    have IH := hid ih
    have hqn : wayOf ks k < nk := by rw [HNK.out]; exact hq
    have HQ := hid hq
    generalize hqq : wayOf ks k = q at *
    clear hqq hw h g ih hlf b1 b2 hp0 hl1 hl2 hf3 he4 ha5 hq
    have HI0 := hid (dri_start w false (.slice ap np cp) (.slice ak nk ck))
    have s0 := HI0.out.s.cell (j := 0) rfl
    have s1 := HI0.out.s.cell (j := 1) rfl
    have s2 := HI0.out.s.cell (j := 2) rfl
    go_enter Try.func140, Try.ntmps140
    go_wp2_with fail
    refine (HWY.out _ (H0.out.kept HI0.out.b)).mono ?_
    generalize (w.alloc (.cells #[.bool false, .slice ap np cp, .slice ak nk ck] 74)).alloc (.cells #[.bool false, .slice none 0 0, .slice none 0 0] 74) = U at *
    rintro e w1 ⟨rfl, hb⟩
    have HI1 := hid (HI0.out.keep hb)
    have HI2 := hid (HI1.out.keep (below_new (o := .cells #[] 74) (w := w1) (Below.refl _ _)))
    have HSN := hid (so_new w1 (w.heap.size + 2) HI1.out.z)
    clear hb s0 s1 s2 HWY HI0
    have HS2 := hid ((H0.out.kept HI2.out.b).row)
    simp only [T.ks] at HS2
    have u2 := HI2.out.s.cell (j := 2) rfl
    go_wp2_with (at_builtin; refine wpList_append_subs rfl _ _ rfl (w.heap.size + 2) _ (fun y => S y ∧ y < w.heap.size) (.slice (some ⟨w1.heap.size, 0, none⟩) 0 0) _ [] ks rfl HSN.out rfl HS2.out ?q0 ?q1 ?q2 ?_)
    case q0 => intro y hy e; have e' : w1.heap.size = y := (by simpa [Value.ownBlock] using e)
               have := HI1.out.z; have := hy.2; omega
    case q1 => have := HNK.out; simp; omega
    case q2 => have := HI1.out.z; first | omega | (simp; omega)
    intro v3 w3 hO3 hg3 ha3
    obtain ⟨a3, n3, c3, e3, hn3⟩ := hO3.shape
    subst e3
    have hlo3 := hO3.lo
    have HI3 := hid (HI2.out.grow hg3 (fun x e => by have e' : w1.heap.size = x := (by simpa [Value.ownBlock] using e); have := HI1.out.z; omega))
    have HS3 : Hid (SO w3 (w.heap.size + 2) (fun y => S y ∧ y < w.heap.size) (.slice a3 n3 c3) ks) := hO3.mono (fun y hy _ => hy.1) (fun y hy e => by have := (hlo3 y e).1; have := hy.2; omega)
    have HN3 : Hid (n3 = nk) := by have := hn3.out; have := HNK.out; show _ = _; simp at *; omega
    clear hO3 hg3 ha3 HSN HS2 HI2 u2 hlo3 hn3 HI1
    obtain ⟨gk, hak, hfr, hat⟩ := HS3.out.at (by rw [← HNK.out]; omega)
    subst hak
    obtain ⟨l9, ap9, np9, cp9, ak9, nk9, ck9, x0, x1, x2, hs9⟩ := hat q HQ.out
    have HS9 := hid hs9
    have hgk := HS3.out.lo gk rfl
    have HGK := hid hgk
    have hq2 : (0 : Int) ≤ (q : Int) := by omega
    have hq4 : (q : Int) < (n3 : Int) := by have := HN3.out; omega
    clear hat hs9 hgk hfr
    go_wp2_with fail
    refine (IH.out false _ l9 ap9 ak9 np9 cp9 nk9 ck9 (tAt ks q) k w3 HS9.out HKG.out).mono ?_
    rintro e w4 ⟨lz, apz, npz, cpz, akz, nkz, ckz, rfl, hsz, hbz⟩
    have HI4 := hid (HI3.out.keep hbz)
    have HS4 := hid (HS3.out.kept hbz)
    have HZ34 := hid hbz.size
    have hsz2 : Sub w4 (fun y => (S y ∧ y < w.heap.size) ∨ (w3.heap.size ≤ y ∧ y < w4.heap.size)) lz (.slice apz npz cpz) (.slice akz nkz ckz) (dropS f (tAt ks q) k) := hsz.mono (fun y hy hl => hy.imp id (fun h => ⟨h, hl⟩))
    have HS5 := hid (HS4.out.set HQ.out hsz2 (fun y hy e => by
      have := HGK.out
      rcases hy with hy | hy
      · have := hy.2; omega
      · omega))
    obtain ⟨_, e5, hfr4, hat4⟩ := HS4.out.at (by rw [← HNK.out]; omega)
    cases e5
    obtain ⟨m9, _, _, _, _, _, _, y0, y1, y2, -⟩ := hat4 q HQ.out
    have yf0 := hfr4 (q * 3)
    have yf1 := hfr4 (q * 3 + 1)
    have yf2 := hfr4 (q * 3 + 2)
    generalize hrr : dropS f (tAt ks q) k = rr at *
    have HRR := hid hrr
    have HI5 : Hid (DrI w (((w4.setCell ⟨gk, q * 3, none⟩ (.bool lz)).setCell ⟨gk, q * 3 + 1, none⟩ (.slice apz npz cpz)).setCell ⟨gk, q * 3 + 2, none⟩ (.slice akz nkz ckz)) false (.slice ap np cp) (.slice ak nk ck)) := HI4.out.only (((only_set (R := fun y => y = gk) rfl _).trans (only_set (R := fun y => y = gk) rfl _)).trans (only_set (R := fun y => y = gk) rfl _)) (fun x e => by have := HGK.out; omega)
    have HLN : Hid ((ks.set q rr).length = nk) := by show _ = _; rw [List.length_set]; exact HNK.out.symm
    obtain ⟨_, e5, hfr5, hat5⟩ := HS5.out.at (by rw [HLN.out]; omega)
    cases e5
    obtain ⟨l5, ap5, np5, cp5, ak5, nk5, ck5, t0, t1, t2, hs5⟩ := hat5 q (by rw [HLN.out]; exact hqn)
    rw [show tAt (ks.set q rr) q = rr by simp [tAt, HQ.out]] at hs5
    have HFW := hid (specFew_any _ l5 ap5 ak5 np5 cp5 nk5 ck5 rr _ hs5 (fun h => (HNR.out.br h).1))
    have HW5 : Hid (w4.heap.size = (((w4.setCell ⟨gk, q * 3, none⟩ (.bool lz)).setCell ⟨gk, q * 3 + 1, none⟩ (.slice apz npz cpz)).setCell ⟨gk, q * 3 + 2, none⟩ (.slice akz nkz ckz)).heap.size) := by show _ = _; simp [World.setCell]
    clear hsz hbz hsz2 hat4 hfr4 hat5 hfr5 hs5 hrr
    go_wp2_with fail
    refine HFW.out.mono ?_
    generalize hX : (((w4.setCell ⟨gk, q * 3, none⟩ (.bool lz)).setCell ⟨gk, q * 3 + 1, none⟩ (.slice apz npz cpz)).setCell ⟨gk, q * 3 + 2, none⟩ (.slice akz nkz ckz)) = X at *
    clear hX y0 y1 y2 yf0 yf1 yf2 x0 x1 x2
    rintro e w6 ⟨rfl, hb⟩
    have HI6 := hid (HI5.out.keep hb)
    have HS6 := hid (HS5.out.kept hb)
    have HZ6 := hid hb.size
    clear hb t0 t1 t2 HFW HS5 HI5 HS4 HI4 HS3 HI3 HS9
    have hn32 : ¬ (n3 : Int) < 2 := by have := HN3.out; omega
    cases hpo : rr.poor with
    | false =>
      have HF2 : Hid (dropS (f + 1) (.mk ps ks) k = .mk [] (ks.set q rr)) := by show _ = _; rw [HF.out, if_neg (by rw [hpo]; simp)]
      have r0 := HI6.out.r.cell (j := 0) rfl
      have r1 := HI6.out.r.cell (j := 1) rfl
      have r2 := HI6.out.r.cell (j := 2) rfl
      have rf0 := HI6.out.r.free 0
      have rf1 := HI6.out.r.free 1
      have rf2 := HI6.out.r.free 2
      have hsr : SubR w6 (fun y => (S y ∧ y < w.heap.size) ∨ w.heap.size + 2 ≤ y) (.slice (some ⟨gk, 0, none⟩) n3 c3) (ks.set q rr) := HS6.out.subR (fun y _ h1 _ => .inr h1) (fun y hy _ => by
        rcases hy with h | h | h
        · exact .inl h
        · exact .inl h
        · right; have := HGK.out; omega)
      have HD2 := hid (HI6.out.done (S := fun y => S y ∧ y < w.heap.size) (hsr.sub (by intro e; have := HLN.out; rw [e] at this; simp at this; omega)) (fun y hy => hy.2))
      have z0 := HD2.out.2.2.cell (j := 0) rfl
      have z1 := HD2.out.2.2.cell (j := 1) rfl
      have z2 := HD2.out.2.2.cell (j := 2) rfl
      clear hpo hsr
      go_wp2
      refine bodyPost_ret (v := .agg #[.bool false, .slice none 0 0, .slice (some ⟨gk, 0, none⟩) n3 c3]) ?_ rfl ?_
      · refine results_sub1 rfl _ _ _ rfl ?_ ?_ ?_
        · exact z0
        · exact z1
        · exact z2
      · refine ⟨_, _, _, _, _, _, _, rfl, ?_, HD2.out.2.1⟩
        rw [HF2.out]
        exact HD2.out.1.mono (fun y hy _ => hy.imp (fun h => h.1) id)
    | true =>
      obtain ⟨s, hs⟩ : ∃ s, max q 1 = s + 1 := ⟨max q 1 - 1, by omega⟩
      have HF2 : Hid (dropS (f + 1) (.mk ps ks) k = .mk [] ((ks.set q rr).take s ++ togS (tAt (ks.set q rr) s) (tAt (ks.set q rr) (s + 1)) ++ (ks.set q rr).drop (s + 1 + 1))) := by show _ = _; rw [HF.out, if_pos hpo, hs, Nat.add_sub_cancel]
      have hsn : s + 1 < nk := by omega
      have HKS : Hid (SO w6 (w.heap.size + 2) (fun y => (S y ∧ y < w.heap.size) ∨ (w3.heap.size ≤ y ∧ y < w4.heap.size)) (.slice (some ⟨gk, 0, none⟩) n3 c3) (ks.set q rr)) := HS6.out.mono (fun y hy _ => by
        rcases hy with h | h | h
        · exact .inl h
        · exact .inl h
        · exact .inr h) (fun y hy e => by
        have e' : gk = y := by simpa [Value.ownBlock] using e
        have := HGK.out
        rcases hy with h | h
        · have := h.2; omega
        · omega)
      have HSM : Hid (∀ i, i < nk → Ev f (tAt (ks.set q rr) i) ∧ (tAt (ks.set q rr) i).ps.length ≤ 4 ∧ (tAt (ks.set q rr) i).ks.length ≤ 4) := by
        intro i hi
        by_cases e : i = q
        · subst e
          rw [show tAt (ks.set i rr) i = rr by simp [tAt, HQ.out]]
          refine ⟨HNR.out.ev, ?_, ?_⟩
          · by_cases h : rr.ks = []
            · exact HNR.out.leaf h
            · rw [(HNR.out.br h).1]; simp
          · by_cases h : rr.ks = []
            · rw [h]; simp
            · exact (HNR.out.br h).2.1
        · rw [show tAt (ks.set q rr) i = tAt ks i by simp [tAt, Ne.symm e]]
          have hm : tAt ks i ∈ ks := tAt_mem (by rw [← HNK.out]; exact hi)
          exact ⟨HKE.out _ hm, full_small (HKF.out _ hm)⟩
      have HNE : Hid ((ks.set q rr).take s ++ togS (tAt (ks.set q rr) s) (tAt (ks.set q rr) (s + 1)) ++ (ks.set q rr).drop (s + 1 + 1) ≠ []) := by
        intro e
        have h1 := List.append_eq_nil_iff.1 e
        have h2 := List.append_eq_nil_iff.1 h1.1
        have h3 : splT (.mk ((tAt (ks.set q rr) s).ps ++ (tAt (ks.set q rr) (s + 1)).ps) ((tAt (ks.set q rr) s).ks ++ (tAt (ks.set q rr) (s + 1)).ks)) = [] := h2.2
        unfold splT at h3
        split at h3
        · cases h3
        · split at h3 <;> cases h3
      have HTL : Hid ((togS (tAt (ks.set q rr) s) (tAt (ks.set q rr) (s + 1))).length ≤ 2) := by
        show (splT _).length ≤ 2
        unfold splT
        split
        · simp
        · split <;> simp
      have HTP : Hid (0 < (togS (tAt (ks.set q rr) s) (tAt (ks.set q rr) (s + 1))).length) := by
        show 0 < (splT _).length
        unfold splT
        split
        · simp
        · split <;> simp
      have HQ0 : Hid (q = 0 ∧ s = 0 ∨ q = s + 1) := by show _ ∨ _; omega
      have HSN : Hid (s + 1 < nk) := hsn
      have HPO := hid hpo
      generalize hkz : ks.set q rr = kz at *
      clear hkz HNR HKF HKE HF HRR HS6 hs hsn
      have hn4 : n3 ≤ 4 := by have := HN3.out; omega
      rcases HQ0.out with ⟨hq0', hs0'⟩ | hqs
      · have hqz : (q : Int) = 0 := by omega
        subst hs0'
        simp only [Nat.zero_add, List.take_zero, List.nil_append] at HTL HF2 HNE HSN HTP
        have HI7 := hid (HI6.out.keep (below_new (o := .cells #[] 74) (w := w6) (Below.refl _ _)))
        have HK7 := hid (HKS.out.kept (below_new (o := .cells #[] 74) (w := w6) (Below.refl _ _)))
        have HS7 := hid (so_new w6 w6.heap.size (Nat.le_refl _))
        have HGZ : Hid (gk < w6.heap.size ∧ w4.heap.size ≤ w6.heap.size ∧ w.heap.size + 2 ≤ w6.heap.size) := ⟨(HKS.out.lo gk rfl).2, by have h1 := HZ6.out; have h2 := HW5.out; omega, HI6.out.z⟩
        have HR7 : Hid (SubR (w6.alloc (.cells #[] 74)) (fun y => y < w6.heap.size ∧ ((S y ∧ y < w.heap.size) ∨ w.heap.size + 2 ≤ y)) (.slice (some ⟨gk, 0, none⟩) n3 c3) kz) := HK7.out.subR (fun y e h1 _ => by have e' : gk = y := (by simpa [Value.ownBlock] using e); have := HGZ.out; exact ⟨by omega, .inr h1⟩) (fun y hy _ => by
          have := HGZ.out
          have := HGK.out
          rcases hy with h | h
          · exact ⟨by have := h.2; omega, .inl h⟩
          · exact ⟨by omega, .inr (by omega)⟩)
        have hn1 : 0 + 1 < n3 := by have := HN3.out; have := HSN.out; omega
        have hc3 : n3 ≤ c3 ∧ c3 ≤ 9223372036854775807 := by obtain ⟨L, P, K, h1, _⟩ := HKS.out; exact (row_cap h1).2
        obtain ⟨hc31, hc32⟩ := hc3
        have hzn : 0 < n3 := by omega
        have hzn1 : 1 < n3 := by omega
        have hz1 : (0 : Int) ≤ (c3 : Int) := by omega
        have hz2 : (1 : Int) < (n3 : Int) := by omega
        have hz3 : (0 : Int) < (n3 : Int) := by omega
        have hwr : IntKind.i64.wrap (0 : Int) = 0 := by rw [IntKind.wrap_i64]; omega
        go_wp2_with (at_builtin; refine wpList_append_subs rfl _ _ rfl w6.heap.size _ (fun y => y < w6.heap.size ∧ ((S y ∧ y < w.heap.size) ∨ w.heap.size + 2 ≤ y)) (.slice (some ⟨w6.heap.size, 0, none⟩) 0 0) _ [] (kz.take (0)) rfl HS7.out rfl (HR7.out.take (by omega)) ?q0 ?q1 ?q2 ?_)
        case q0 => intro y hy e; have e' : w6.heap.size = y := (by simpa [Value.ownBlock] using e)
                   have := hy.1; omega
        case q1 => first | (rw [List.length_take]; simp; omega) | simp
        case q2 => first | omega | simp
        intro v8 w8 hO8 hg8 ha8
        obtain ⟨a8, n8, c8, e8, -⟩ := hO8.shape
        subst e8
        have hlo8 := hO8.lo
        have HI8 := hid (HI7.out.grow hg8 (fun x e => by have e' : w6.heap.size = x := (by simpa [Value.ownBlock] using e); have := HGZ.out; omega))
        have hon8 : Only (fun y => y = w6.heap.size) (w6.alloc (.cells #[] 74)) w8 := only_of_grown hg8 (fun x e => by have e' : w6.heap.size = x := (by simpa [Value.ownBlock] using e); omega)
        have HK8 := hid (HK7.out.to hon8 (fun y e h => by have e' : gk = y := (by simpa [Value.ownBlock] using e); have := HGZ.out; omega) (fun y hy _ h => by have := HGZ.out; rcases hy with h2 | h2 <;> omega))
        have HS8 : Hid (SO w8 w6.heap.size (fun y => y < w6.heap.size ∧ ((S y ∧ y < w.heap.size) ∨ w.heap.size + 2 ≤ y)) (.slice a8 n8 c8) (kz.take (0))) := by
          refine SO.mono (S := fun y => y < w6.heap.size ∧ ((S y ∧ y < w.heap.size) ∨ w.heap.size + 2 ≤ y)) ?_ (fun y hy _ => hy) (fun y hy e => by have := (hlo8 y e).1; have := hy.1; omega)
          have h9 := hO8.mono (R := fun y => y < w6.heap.size ∧ ((S y ∧ y < w.heap.size) ∨ w.heap.size + 2 ≤ y)) (fun y hy _ => by first | exact hy.1 | exact hy.1.resolve_left id) (fun y hy e => by have := (hlo8 y e).1; have := hy.1; omega)
          simpa using h9
        have HZ68 : Hid (w6.heap.size ≤ w8.heap.size) := by have := hon8.size; simp at this; show _ ≤ _; omega
        clear hO8 hg8 ha8 HI7 HK7 HS7 HR7 hlo8 hon8
        obtain ⟨_, eK, _, hatK⟩ := HK8.out.at (by rw [HLN.out]; omega)
        cases eK
        obtain ⟨la, apa, npa, cpa, aka, nka, cka, i0, i1, i2, hsa⟩ := hatK (0) (by rw [HLN.out]; have := HSN.out; omega)
        obtain ⟨lb, apb, npb, cpb, akb, nkb, ckb, j0, j1, j2, hsb⟩ := hatK (1) (by rw [HLN.out]; exact HSN.out)
        try simp only [Nat.zero_mul, Nat.one_mul, Nat.zero_add] at i0 i1 i2 j0 j1 j2
        have HTG := hid (specTogether_any _ la lb apa aka apb akb npa cpa nka cka npb cpb nkb ckb _ _ w8.drew (hsa.kept (below_drew _)) (hsb.kept (below_drew _)) (ev_leaf (HSM.out (0) (by have := HSN.out; omega)).1 (HSM.out (1) HSN.out).1) (by have h1 := (HSM.out (0) (by have := HSN.out; omega)).2.1; have h2 := (HSM.out (1) HSN.out).2.1; omega) (by have h1 := (HSM.out (0) (by have := HSN.out; omega)).2.2; have h2 := (HSM.out (1) HSN.out).2.2; omega))
        have HAP : Hid (∀ y, ((S y ∧ y < w.heap.size) ∨ (w3.heap.size ≤ y ∧ y < w4.heap.size)) ∨ w8.drew.heap.size ≤ y → (Value.slice a8 n8 c8).ownBlock ≠ some y) := by
          intro y hy e
          have h1 := HS8.out.lo y e
          have h2 := HGZ.out
          rcases hy with (h | h) | h
          · have := h.2; omega
          · omega
          · have h3 : w8.heap.size ≤ y := h
            omega
        have HTL2 : Hid ((kz.take (0)).length + (togS (tAt kz (0)) (tAt kz (1))).length ≤ 1048576) := by have := HTL.out; rw [List.length_take]; show _ ≤ _; omega
        have HST : Hid (∀ (w9 : World), Below w8.drew.heap.size w8.drew w9 → SO w9 w6.heap.size (fun y => y < w6.heap.size ∧ ((S y ∧ y < w.heap.size) ∨ w.heap.size + 2 ≤ y)) (.slice a8 n8 c8) (kz.take (0)) ∧ w6.heap.size ≤ w9.heap.size) := by
          intro w9 hb
          refine ⟨HS8.out.kept (Below.then' (below_drew w8) hb (Nat.le_refl _)), ?_⟩
          have h5 : w8.heap.size ≤ w9.heap.size := hb.size
          have := HZ68.out; omega
        have HFIN : Hid (∀ (w9 wA : World) (aA : Option Addr) (nA cA : Nat) (R : Nat → Prop), Below w8.drew.heap.size w8.drew w9 → SO wA w6.heap.size R (.slice aA nA cA) (kz.take (0) ++ togS (tAt kz (0)) (tAt kz (1))) → (∀ y, R y → ((S y ∧ y < w.heap.size) ∨ w.heap.size + 2 ≤ y)) → w9.grownBy wA (Value.slice a8 n8 c8).ownBlock →
            SO wA w6.heap.size (fun y => ((S y ∧ y < w.heap.size) ∨ (w.heap.size + 2 ≤ y ∧ (Value.slice aA nA cA).ownBlock ≠ some y))) (.slice aA nA cA) (kz.take (0) ++ togS (tAt kz (0)) (tAt kz (1))) ∧ DrI w wA false (.slice ap np cp) (.slice ak nk ck) ∧ SO wA (w.heap.size + 2) (fun y => (S y ∧ y < w.heap.size) ∨ (w3.heap.size ≤ y ∧ y < w4.heap.size)) (.slice (some ⟨gk, 0, none⟩) n3 c3) kz) := by
          intro w9 wA aA nA cA R hb hO hR hg
          have hlo := hO.lo
          have hz := HGZ.out
          have hb2 := Below.then' (below_drew w8) hb (Nat.le_refl _)
          have hon : Only (fun y => w6.heap.size ≤ y) w9 wA := only_of_grown hg (fun x e => (HS8.out.lo x e).1)
          refine ⟨?_, (HI8.out.keep hb2).only hon (fun x h => by omega), (HK8.out.kept hb2).to hon (fun y e h => by have e' : gk = y := (by simpa [Value.ownBlock] using e); omega) (fun y hy _ h => by rcases hy with h2 | h2 <;> omega)⟩
          obtain ⟨L, P, K, h1, h2, h3⟩ := hO
          refine ⟨L, P, K, h1, fun i hi => (h2 i hi).mono (fun y hy hl => ?_), ?_⟩
          · rcases hR y hy with h | h
            · exact .inl h
            · exact .inr ⟨h, h3 y hy⟩
          · rintro y (h | h)
            · intro e; have := (hlo y e).1; have := h.2; omega
            · exact h.2
        have HRR2 : Hid (∀ y, ((y < w6.heap.size ∧ ((S y ∧ y < w.heap.size) ∨ w.heap.size + 2 ≤ y)) ∨ ((S y ∧ y < w.heap.size) ∨ (w3.heap.size ≤ y ∧ y < w4.heap.size)) ∨ w8.drew.heap.size ≤ y) ∧ True → ((S y ∧ y < w.heap.size) ∨ w.heap.size + 2 ≤ y)) := by
          have h1 := HGK.out
          have h2 := HGZ.out
          have h4 := HZ68.out
          rintro y ⟨h | (h | h) | h, -⟩
          · exact h.2
          · exact .inl h
          · right; omega
          · have h3 : w8.heap.size ≤ y := h
            right; omega
        clear hsa hsb hatK
        go_wp2_with fail
        go_cut [10] (fun x v2 => ∃ (aA : Option Addr) (nA cA : Nat), x = .slice aA nA cA ∧ Hid (SO v2 w6.heap.size (fun y => ((S y ∧ y < w.heap.size) ∨ (w.heap.size + 2 ≤ y ∧ (Value.slice aA nA cA).ownBlock ≠ some y))) (.slice aA nA cA) (kz.take (0) ++ togS (tAt kz (0)) (tAt kz (1)))) ∧ Hid (DrI w v2 false (.slice ap np cp) (.slice ak nk ck)) ∧ Hid (SO v2 (w.heap.size + 2) (fun y => (S y ∧ y < w.heap.size) ∨ (w3.heap.size ≤ y ∧ y < w4.heap.size)) (.slice (some ⟨gk, 0, none⟩) n3 c3) kz))
        case first =>
          go_region_law (first
            | (go_simp; go_at_call 153; refine HTG.out.mono ?_; rintro e w9 ⟨v9, rfl, hR9, hb9⟩)
            | (refine step_append_subs rfl _ _ rfl w6.heap.size _ _ (.slice a8 n8 c8) _ (kz.take (0)) (togS (tAt kz (0)) (tAt kz (1))) rfl (HST.out _ hb9).1 rfl hR9 HAP.out HTL2.out (HST.out _ hb9).2 ?_; intro vA wA hOA hgA haA; obtain ⟨aA, nA, cA, eA, -⟩ := hOA.shape; subst eA))
          all_goals (go_wp2_with fail; go_meet)
          all_goals exact ⟨aA, nA, cA, rfl, (HFIN.out _ _ _ _ _ _ hb9 hOA (fun y hy => HRR2.out y ⟨hy.1, trivial⟩) hgA).1, (HFIN.out _ _ _ _ _ _ hb9 hOA (fun y hy => HRR2.out y ⟨hy.1, trivial⟩) hgA).2.1, (HFIN.out _ _ _ _ _ _ hb9 hOA (fun y hy => HRR2.out y ⟨hy.1, trivial⟩) hgA).2.2⟩
        case rest =>
          obtain ⟨aA, nA, cA, rfl, HSA, HIA, HKA⟩ := hcut
          clear HFIN HST HAP HTG i0 i1 i2 j0 j1 j2 HS8 HI8 HK8 HTL2 HRR2
          have HZB : Hid (w6.heap.size ≤ wc.heap.size) := by
            obtain ⟨L, P, K, h1, _⟩ := HSA.out
            have hlen : 0 < (kz.take (0) ++ togS (tAt kz (0)) (tAt kz (1))).length := by
              rw [List.length_append]
              have := HTP.out
              omega
            rcases h1.2 with ⟨_, h0⟩ | ⟨g, _, _, h0, h2, h3, _⟩
            · omega
            · have := (Array.getElem?_eq_some_iff.1 h3).1
              show _ ≤ _; omega
          have HRA : Hid (SubR wc (fun y => y < w6.heap.size ∧ ((S y ∧ y < w.heap.size) ∨ w.heap.size + 2 ≤ y)) (.slice (some ⟨gk, 0, none⟩) n3 c3) kz) := HKA.out.subR (fun y e h1 _ => by have e' : gk = y := (by simpa [Value.ownBlock] using e); have := HGZ.out; exact ⟨by omega, .inr h1⟩) (fun y hy _ => by
            have := HGZ.out
            have := HGK.out
            rcases hy with h | h
            · exact ⟨by have := h.2; omega, .inl h⟩
            · exact ⟨by omega, .inr (by omega)⟩)
          have HAQ : Hid (∀ y, y < w6.heap.size ∧ ((S y ∧ y < w.heap.size) ∨ w.heap.size + 2 ≤ y) → (Value.slice aA nA cA).ownBlock ≠ some y) := fun y hy e => by have := (HSA.out.lo y e).1; have := hy.1; omega
          have HDL : Hid ((kz.take (0) ++ togS (tAt kz (0)) (tAt kz (1))).length + (kz.drop (2)).length ≤ 1048576) := by
            have := HTL.out
            have := HLN.out
            rw [List.length_append, List.length_take, List.length_drop]; show _ ≤ _; omega
          have hzz1 : (2 : Int) ≤ (n3 : Int) := by omega
          have hzz2 : (0 : Int) ≤ (2 : Int) := by omega
          by_cases hcap : ¬ c3 = 2
          · have HDR := hid (HRA.out.drop (m := 2) (by omega))
            rw [Nat.zero_add] at HDR
            go_wp2_with (at_builtin; refine wpList_append_subs rfl _ _ rfl w6.heap.size _ (fun y => y < w6.heap.size ∧ ((S y ∧ y < w.heap.size) ∨ w.heap.size + 2 ≤ y)) (.slice aA nA cA) _ _ (kz.drop (2)) rfl HSA.out rfl HDR.out HAQ.out HDL.out HZB.out ?_)
            intro v6 wD hO6 hg6 ha6
            obtain ⟨a6, n6, c6, e6, -⟩ := hO6.shape
            subst e6
            have hID := HIA.out.grow hg6 (fun x e => by have := (HSA.out.lo x e).1; have := HGZ.out; omega)
            have hSD : Sub wD (fun y => (S y ∧ y < w.heap.size) ∨ w.heap.size + 2 ≤ y) false (.slice none 0 0) (.slice a6 n6 c6) (.mk [] (togS (tAt kz 0) (tAt kz 1) ++ kz.drop 2)) := (hO6.subR (fun y _ h1 _ => .inr (by have := HGZ.out; omega)) (fun y hy _ => by
              rcases hy.1 with (h | h) | h
              · exact .inl h
              · exact .inr h.1
              · exact h.2)).sub HNE.out
            have HD2 := hid (hID.done (S := fun y => S y ∧ y < w.heap.size) hSD (fun y hy => hy.2))
            have r0 := hID.r.cell (j := 0) rfl
            have r1 := hID.r.cell (j := 1) rfl
            have r2 := hID.r.cell (j := 2) rfl
            have rf0 := hID.r.free 0
            have rf1 := hID.r.free 1
            have rf2 := hID.r.free 2
            have z0 := HD2.out.2.2.cell (j := 0) rfl
            have z1 := HD2.out.2.2.cell (j := 1) rfl
            have z2 := HD2.out.2.2.cell (j := 2) rfl
            clear hO6 hg6 ha6 hID hSD HDR
            go_wp2
            refine bodyPost_ret (v := .agg #[.bool false, .slice none 0 0, .slice a6 n6 c6]) ?_ rfl ?_
            · refine results_sub1 rfl _ _ _ rfl ?_ ?_ ?_
              · exact z0
              · exact z1
              · exact z2
            · refine ⟨_, _, _, _, _, _, _, rfl, ?_, HD2.out.2.1⟩
              rw [HF2.out]
              exact HD2.out.1.mono (fun y hy _ => hy.imp (fun h => h.1) id)
          · have hck : c3 = 2 := by omega
            have hnk1 : n3 = 2 := by omega
            have HDR : Hid (SubR wc (fun y => y < w6.heap.size ∧ ((S y ∧ y < w.heap.size) ∨ w.heap.size + 2 ≤ y)) (.slice (some ⟨gk, 0, none⟩) 0 0) (kz.drop (2))) := by
              rw [List.drop_eq_nil_of_le (by rw [HLN.out]; have := HN3.out; omega)]
              exact ⟨fun _ => false, fun _ => .slice none 0 0, fun _ => .slice none 0 0, ⟨_, 0, rfl, Nat.le_refl _, by omega, fun _ => rfl, fun h => (by cases h), fun h => (by simp at h)⟩, fun i hi => (by simp at hi)⟩
            subst hck hnk1
            go_wp2_with (at_builtin; refine wpList_append_subs rfl _ _ rfl w6.heap.size _ (fun y => y < w6.heap.size ∧ ((S y ∧ y < w.heap.size) ∨ w.heap.size + 2 ≤ y)) (.slice aA nA cA) _ _ (kz.drop (2)) rfl HSA.out rfl HDR.out HAQ.out HDL.out HZB.out ?_)
            intro v6 wD hO6 hg6 ha6
            obtain ⟨a6, n6, c6, e6, -⟩ := hO6.shape
            subst e6
            have hID := HIA.out.grow hg6 (fun x e => by have := (HSA.out.lo x e).1; have := HGZ.out; omega)
            have hSD : Sub wD (fun y => (S y ∧ y < w.heap.size) ∨ w.heap.size + 2 ≤ y) false (.slice none 0 0) (.slice a6 n6 c6) (.mk [] (togS (tAt kz 0) (tAt kz 1) ++ kz.drop 2)) := (hO6.subR (fun y _ h1 _ => .inr (by have := HGZ.out; omega)) (fun y hy _ => by
              rcases hy.1 with (h | h) | h
              · exact .inl h
              · exact .inr h.1
              · exact h.2)).sub HNE.out
            have HD2 := hid (hID.done (S := fun y => S y ∧ y < w.heap.size) hSD (fun y hy => hy.2))
            have r0 := hID.r.cell (j := 0) rfl
            have r1 := hID.r.cell (j := 1) rfl
            have r2 := hID.r.cell (j := 2) rfl
            have rf0 := hID.r.free 0
            have rf1 := hID.r.free 1
            have rf2 := hID.r.free 2
            have z0 := HD2.out.2.2.cell (j := 0) rfl
            have z1 := HD2.out.2.2.cell (j := 1) rfl
            have z2 := HD2.out.2.2.cell (j := 2) rfl
            clear hO6 hg6 ha6 hID hSD HDR
            go_wp2
            refine bodyPost_ret (v := .agg #[.bool false, .slice none 0 0, .slice a6 n6 c6]) ?_ rfl ?_
            · refine results_sub1 rfl _ _ _ rfl ?_ ?_ ?_
              · exact z0
              · exact z1
              · exact z2
            · refine ⟨_, _, _, _, _, _, _, rfl, ?_, HD2.out.2.1⟩
              rw [HF2.out]
              exact HD2.out.1.mono (fun y hy _ => hy.imp (fun h => h.1) id)
      · have hqz : ¬ (q : Int) = 0 := by omega
        subst hqs
        simp only [List.append_assoc] at HF2 HNE
        have HI7 := hid (HI6.out.keep (below_new (o := .cells #[] 74) (w := w6) (Below.refl _ _)))
        have HK7 := hid (HKS.out.kept (below_new (o := .cells #[] 74) (w := w6) (Below.refl _ _)))
        have HS7 := hid (so_new w6 w6.heap.size (Nat.le_refl _))
        have HGZ : Hid (gk < w6.heap.size ∧ w4.heap.size ≤ w6.heap.size ∧ w.heap.size + 2 ≤ w6.heap.size) := ⟨(HKS.out.lo gk rfl).2, by have h1 := HZ6.out; have h2 := HW5.out; omega, HI6.out.z⟩
        have HR7 : Hid (SubR (w6.alloc (.cells #[] 74)) (fun y => y < w6.heap.size ∧ ((S y ∧ y < w.heap.size) ∨ w.heap.size + 2 ≤ y)) (.slice (some ⟨gk, 0, none⟩) n3 c3) kz) := HK7.out.subR (fun y e h1 _ => by have e' : gk = y := (by simpa [Value.ownBlock] using e); have := HGZ.out; exact ⟨by omega, .inr h1⟩) (fun y hy _ => by
          have := HGZ.out
          have := HGK.out
          rcases hy with h | h
          · exact ⟨by have := h.2; omega, .inl h⟩
          · exact ⟨by omega, .inr (by omega)⟩)
        have hn1 : s + 1 < n3 := by have := HN3.out; have := HSN.out; omega
        have hc3 : n3 ≤ c3 ∧ c3 ≤ 9223372036854775807 := by obtain ⟨L, P, K, h1, _⟩ := HKS.out; exact (row_cap h1).2
        obtain ⟨hc31, hc32⟩ := hc3
        have hz5 : (0 : Int) ≤ (s : Int) + 1 := by omega
        have hz0 : (0 : Int) ≤ (s : Int) := by omega
        have hz1 : (s : Int) ≤ (c3 : Int) := by omega
        have hz2 : (s : Int) + 1 < (n3 : Int) := by omega
        have hz3 : (s : Int) < (n3 : Int) := by omega
        have hz4 : (s : Int) ≤ 1000 := by omega
        have hwr : IntKind.i64.wrap (s : Int) = (s : Int) := by rw [IntKind.wrap_i64]; omega
        have hwr2 : IntKind.i64.wrap ((s : Int) + 1 - 1) = (s : Int) := by rw [IntKind.wrap_i64]; omega
        go_wp2_with (at_builtin; refine wpList_append_subs rfl _ _ rfl w6.heap.size _ (fun y => y < w6.heap.size ∧ ((S y ∧ y < w.heap.size) ∨ w.heap.size + 2 ≤ y)) (.slice (some ⟨w6.heap.size, 0, none⟩) 0 0) _ [] (kz.take (s)) rfl HS7.out rfl (HR7.out.take (by omega)) ?q0 ?q1 ?q2 ?_)
        case q0 => intro y hy e; have e' : w6.heap.size = y := (by simpa [Value.ownBlock] using e)
                   have := hy.1; omega
        case q1 => first | (rw [List.length_take]; simp; omega) | simp
        case q2 => first | omega | simp
        intro v8 w8 hO8 hg8 ha8
        obtain ⟨a8, n8, c8, e8, -⟩ := hO8.shape
        subst e8
        have hlo8 := hO8.lo
        have HI8 := hid (HI7.out.grow hg8 (fun x e => by have e' : w6.heap.size = x := (by simpa [Value.ownBlock] using e); have := HGZ.out; omega))
        have hon8 : Only (fun y => y = w6.heap.size) (w6.alloc (.cells #[] 74)) w8 := only_of_grown hg8 (fun x e => by have e' : w6.heap.size = x := (by simpa [Value.ownBlock] using e); omega)
        have HK8 := hid (HK7.out.to hon8 (fun y e h => by have e' : gk = y := (by simpa [Value.ownBlock] using e); have := HGZ.out; omega) (fun y hy _ h => by have := HGZ.out; rcases hy with h2 | h2 <;> omega))
        have HS8 : Hid (SO w8 w6.heap.size (fun y => y < w6.heap.size ∧ ((S y ∧ y < w.heap.size) ∨ w.heap.size + 2 ≤ y)) (.slice a8 n8 c8) (kz.take (s))) := by
          refine SO.mono (S := fun y => y < w6.heap.size ∧ ((S y ∧ y < w.heap.size) ∨ w.heap.size + 2 ≤ y)) ?_ (fun y hy _ => hy) (fun y hy e => by have := (hlo8 y e).1; have := hy.1; omega)
          have h9 := hO8.mono (R := fun y => y < w6.heap.size ∧ ((S y ∧ y < w.heap.size) ∨ w.heap.size + 2 ≤ y)) (fun y hy _ => by first | exact hy.1 | exact hy.1.resolve_left id) (fun y hy e => by have := (hlo8 y e).1; have := hy.1; omega)
          simpa using h9
        have HZ68 : Hid (w6.heap.size ≤ w8.heap.size) := by have := hon8.size; simp at this; show _ ≤ _; omega
        clear hO8 hg8 ha8 HI7 HK7 HS7 HR7 hlo8 hon8
        obtain ⟨_, eK, _, hatK⟩ := HK8.out.at (by rw [HLN.out]; omega)
        cases eK
        obtain ⟨la, apa, npa, cpa, aka, nka, cka, i0, i1, i2, hsa⟩ := hatK (s) (by rw [HLN.out]; have := HSN.out; omega)
        obtain ⟨lb, apb, npb, cpb, akb, nkb, ckb, j0, j1, j2, hsb⟩ := hatK (s + 1) (by rw [HLN.out]; exact HSN.out)
        try simp only [Nat.zero_mul, Nat.one_mul, Nat.zero_add] at i0 i1 i2 j0 j1 j2
        have HTG := hid (specTogether_any _ la lb apa aka apb akb npa cpa nka cka npb cpb nkb ckb _ _ w8.drew (hsa.kept (below_drew _)) (hsb.kept (below_drew _)) (ev_leaf (HSM.out (s) (by have := HSN.out; omega)).1 (HSM.out (s + 1) HSN.out).1) (by have h1 := (HSM.out (s) (by have := HSN.out; omega)).2.1; have h2 := (HSM.out (s + 1) HSN.out).2.1; omega) (by have h1 := (HSM.out (s) (by have := HSN.out; omega)).2.2; have h2 := (HSM.out (s + 1) HSN.out).2.2; omega))
        have HAP : Hid (∀ y, ((S y ∧ y < w.heap.size) ∨ (w3.heap.size ≤ y ∧ y < w4.heap.size)) ∨ w8.drew.heap.size ≤ y → (Value.slice a8 n8 c8).ownBlock ≠ some y) := by
          intro y hy e
          have h1 := HS8.out.lo y e
          have h2 := HGZ.out
          rcases hy with (h | h) | h
          · have := h.2; omega
          · omega
          · have h3 : w8.heap.size ≤ y := h
            omega
        have HTL2 : Hid ((kz.take (s)).length + (togS (tAt kz (s)) (tAt kz (s + 1))).length ≤ 1048576) := by have := HTL.out; rw [List.length_take]; show _ ≤ _; omega
        have HST : Hid (∀ (w9 : World), Below w8.drew.heap.size w8.drew w9 → SO w9 w6.heap.size (fun y => y < w6.heap.size ∧ ((S y ∧ y < w.heap.size) ∨ w.heap.size + 2 ≤ y)) (.slice a8 n8 c8) (kz.take (s)) ∧ w6.heap.size ≤ w9.heap.size) := by
          intro w9 hb
          refine ⟨HS8.out.kept (Below.then' (below_drew w8) hb (Nat.le_refl _)), ?_⟩
          have h5 : w8.heap.size ≤ w9.heap.size := hb.size
          have := HZ68.out; omega
        have HFIN : Hid (∀ (w9 wA : World) (aA : Option Addr) (nA cA : Nat) (R : Nat → Prop), Below w8.drew.heap.size w8.drew w9 → SO wA w6.heap.size R (.slice aA nA cA) (kz.take (s) ++ togS (tAt kz (s)) (tAt kz (s + 1))) → (∀ y, R y → ((S y ∧ y < w.heap.size) ∨ w.heap.size + 2 ≤ y)) → w9.grownBy wA (Value.slice a8 n8 c8).ownBlock →
            SO wA w6.heap.size (fun y => ((S y ∧ y < w.heap.size) ∨ (w.heap.size + 2 ≤ y ∧ (Value.slice aA nA cA).ownBlock ≠ some y))) (.slice aA nA cA) (kz.take (s) ++ togS (tAt kz (s)) (tAt kz (s + 1))) ∧ DrI w wA false (.slice ap np cp) (.slice ak nk ck) ∧ SO wA (w.heap.size + 2) (fun y => (S y ∧ y < w.heap.size) ∨ (w3.heap.size ≤ y ∧ y < w4.heap.size)) (.slice (some ⟨gk, 0, none⟩) n3 c3) kz) := by
          intro w9 wA aA nA cA R hb hO hR hg
          have hlo := hO.lo
          have hz := HGZ.out
          have hb2 := Below.then' (below_drew w8) hb (Nat.le_refl _)
          have hon : Only (fun y => w6.heap.size ≤ y) w9 wA := only_of_grown hg (fun x e => (HS8.out.lo x e).1)
          refine ⟨?_, (HI8.out.keep hb2).only hon (fun x h => by omega), (HK8.out.kept hb2).to hon (fun y e h => by have e' : gk = y := (by simpa [Value.ownBlock] using e); omega) (fun y hy _ h => by rcases hy with h2 | h2 <;> omega)⟩
          obtain ⟨L, P, K, h1, h2, h3⟩ := hO
          refine ⟨L, P, K, h1, fun i hi => (h2 i hi).mono (fun y hy hl => ?_), ?_⟩
          · rcases hR y hy with h | h
            · exact .inl h
            · exact .inr ⟨h, h3 y hy⟩
          · rintro y (h | h)
            · intro e; have := (hlo y e).1; have := h.2; omega
            · exact h.2
        have HRR2 : Hid (∀ y, ((y < w6.heap.size ∧ ((S y ∧ y < w.heap.size) ∨ w.heap.size + 2 ≤ y)) ∨ ((S y ∧ y < w.heap.size) ∨ (w3.heap.size ≤ y ∧ y < w4.heap.size)) ∨ w8.drew.heap.size ≤ y) ∧ True → ((S y ∧ y < w.heap.size) ∨ w.heap.size + 2 ≤ y)) := by
          have h1 := HGK.out
          have h2 := HGZ.out
          have h4 := HZ68.out
          rintro y ⟨h | (h | h) | h, -⟩
          · exact h.2
          · exact .inl h
          · right; omega
          · have h3 : w8.heap.size ≤ y := h
            right; omega
        clear hsa hsb hatK
        go_wp2_with fail
        go_cut [10] (fun x v2 => ∃ (aA : Option Addr) (nA cA : Nat), x = .slice aA nA cA ∧ Hid (SO v2 w6.heap.size (fun y => ((S y ∧ y < w.heap.size) ∨ (w.heap.size + 2 ≤ y ∧ (Value.slice aA nA cA).ownBlock ≠ some y))) (.slice aA nA cA) (kz.take (s) ++ togS (tAt kz (s)) (tAt kz (s + 1)))) ∧ Hid (DrI w v2 false (.slice ap np cp) (.slice ak nk ck)) ∧ Hid (SO v2 (w.heap.size + 2) (fun y => (S y ∧ y < w.heap.size) ∨ (w3.heap.size ≤ y ∧ y < w4.heap.size)) (.slice (some ⟨gk, 0, none⟩) n3 c3) kz))
        case first =>
          go_region_law (first
            | (go_simp; go_at_call 153; refine HTG.out.mono ?_; rintro e w9 ⟨v9, rfl, hR9, hb9⟩)
            | (refine step_append_subs rfl _ _ rfl w6.heap.size _ _ (.slice a8 n8 c8) _ (kz.take (s)) (togS (tAt kz (s)) (tAt kz (s + 1))) rfl (HST.out _ hb9).1 rfl hR9 HAP.out HTL2.out (HST.out _ hb9).2 ?_; intro vA wA hOA hgA haA; obtain ⟨aA, nA, cA, eA, -⟩ := hOA.shape; subst eA))
          all_goals (go_wp2_with fail; go_meet)
          all_goals exact ⟨aA, nA, cA, rfl, (HFIN.out _ _ _ _ _ _ hb9 hOA (fun y hy => HRR2.out y ⟨hy.1, trivial⟩) hgA).1, (HFIN.out _ _ _ _ _ _ hb9 hOA (fun y hy => HRR2.out y ⟨hy.1, trivial⟩) hgA).2.1, (HFIN.out _ _ _ _ _ _ hb9 hOA (fun y hy => HRR2.out y ⟨hy.1, trivial⟩) hgA).2.2⟩
        case rest =>
          obtain ⟨aA, nA, cA, rfl, HSA, HIA, HKA⟩ := hcut
          clear HFIN HST HAP HTG i0 i1 i2 j0 j1 j2 HS8 HI8 HK8 HTL2 HRR2
          have HZB : Hid (w6.heap.size ≤ wc.heap.size) := by
            obtain ⟨L, P, K, h1, _⟩ := HSA.out
            have hlen : 0 < (kz.take (s) ++ togS (tAt kz (s)) (tAt kz (s + 1))).length := by
              rw [List.length_append]
              have := HTP.out
              omega
            rcases h1.2 with ⟨_, h0⟩ | ⟨g, _, _, h0, h2, h3, _⟩
            · omega
            · have := (Array.getElem?_eq_some_iff.1 h3).1
              show _ ≤ _; omega
          have HRA : Hid (SubR wc (fun y => y < w6.heap.size ∧ ((S y ∧ y < w.heap.size) ∨ w.heap.size + 2 ≤ y)) (.slice (some ⟨gk, 0, none⟩) n3 c3) kz) := HKA.out.subR (fun y e h1 _ => by have e' : gk = y := (by simpa [Value.ownBlock] using e); have := HGZ.out; exact ⟨by omega, .inr h1⟩) (fun y hy _ => by
            have := HGZ.out
            have := HGK.out
            rcases hy with h | h
            · exact ⟨by have := h.2; omega, .inl h⟩
            · exact ⟨by omega, .inr (by omega)⟩)
          have HAQ : Hid (∀ y, y < w6.heap.size ∧ ((S y ∧ y < w.heap.size) ∨ w.heap.size + 2 ≤ y) → (Value.slice aA nA cA).ownBlock ≠ some y) := fun y hy e => by have := (HSA.out.lo y e).1; have := hy.1; omega
          have HDL : Hid ((kz.take (s) ++ togS (tAt kz (s)) (tAt kz (s + 1))).length + (kz.drop (s + 1 + 1)).length ≤ 1048576) := by
            have := HTL.out
            have := HLN.out
            rw [List.length_append, List.length_take, List.length_drop]; show _ ≤ _; omega
          have hzz1 : ((s : Int) + 1 + 1 : Int) ≤ (n3 : Int) := by omega
          have hzz2 : (0 : Int) ≤ ((s : Int) + 1 + 1 : Int) := by omega
          by_cases hcap : ¬ c3 = s + 1 + 1
          · have HDR := hid (HRA.out.drop (m := s + 1 + 1) (by omega))
            rw [Nat.zero_add] at HDR
            go_wp2_with (at_builtin; refine wpList_append_subs rfl _ _ rfl w6.heap.size _ (fun y => y < w6.heap.size ∧ ((S y ∧ y < w.heap.size) ∨ w.heap.size + 2 ≤ y)) (.slice aA nA cA) _ _ (kz.drop (s + 1 + 1)) rfl HSA.out rfl HDR.out HAQ.out HDL.out HZB.out ?_)
            intro v6 wD hO6 hg6 ha6
            obtain ⟨a6, n6, c6, e6, -⟩ := hO6.shape
            subst e6
            have hID := HIA.out.grow hg6 (fun x e => by have := (HSA.out.lo x e).1; have := HGZ.out; omega)
            have hSD : Sub wD (fun y => (S y ∧ y < w.heap.size) ∨ w.heap.size + 2 ≤ y) false (.slice none 0 0) (.slice a6 n6 c6) (.mk [] (kz.take s ++ (togS (tAt kz s) (tAt kz (s + 1)) ++ kz.drop (s + 1 + 1)))) := (hO6.subR (fun y _ h1 _ => .inr (by have := HGZ.out; omega)) (fun y hy _ => by
              rcases hy.1 with (h | h) | h
              · exact .inl h
              · exact .inr h.1
              · exact h.2)).sub HNE.out
            have HD2 := hid (hID.done (S := fun y => S y ∧ y < w.heap.size) hSD (fun y hy => hy.2))
            have r0 := hID.r.cell (j := 0) rfl
            have r1 := hID.r.cell (j := 1) rfl
            have r2 := hID.r.cell (j := 2) rfl
            have rf0 := hID.r.free 0
            have rf1 := hID.r.free 1
            have rf2 := hID.r.free 2
            have z0 := HD2.out.2.2.cell (j := 0) rfl
            have z1 := HD2.out.2.2.cell (j := 1) rfl
            have z2 := HD2.out.2.2.cell (j := 2) rfl
            clear hO6 hg6 ha6 hID hSD HDR
            go_wp2
            refine bodyPost_ret (v := .agg #[.bool false, .slice none 0 0, .slice a6 n6 c6]) ?_ rfl ?_
            · refine results_sub1 rfl _ _ _ rfl ?_ ?_ ?_
              · exact z0
              · exact z1
              · exact z2
            · refine ⟨_, _, _, _, _, _, _, rfl, ?_, HD2.out.2.1⟩
              rw [HF2.out]
              exact HD2.out.1.mono (fun y hy _ => hy.imp (fun h => h.1) id)
          · have hck : c3 = s + 1 + 1 := by omega
            have hnk1 : n3 = s + 1 + 1 := by omega
            have HDR : Hid (SubR wc (fun y => y < w6.heap.size ∧ ((S y ∧ y < w.heap.size) ∨ w.heap.size + 2 ≤ y)) (.slice (some ⟨gk, 0, none⟩) 0 0) (kz.drop (s + 1 + 1))) := by
              rw [List.drop_eq_nil_of_le (by rw [HLN.out]; have := HN3.out; omega)]
              exact ⟨fun _ => false, fun _ => .slice none 0 0, fun _ => .slice none 0 0, ⟨_, 0, rfl, Nat.le_refl _, by omega, fun _ => rfl, fun h => (by cases h), fun h => (by simp at h)⟩, fun i hi => (by simp at hi)⟩
            subst hck hnk1
            go_wp2_with (at_builtin; refine wpList_append_subs rfl _ _ rfl w6.heap.size _ (fun y => y < w6.heap.size ∧ ((S y ∧ y < w.heap.size) ∨ w.heap.size + 2 ≤ y)) (.slice aA nA cA) _ _ (kz.drop (s + 1 + 1)) rfl HSA.out rfl HDR.out HAQ.out HDL.out HZB.out ?_)
            intro v6 wD hO6 hg6 ha6
            obtain ⟨a6, n6, c6, e6, -⟩ := hO6.shape
            subst e6
            have hID := HIA.out.grow hg6 (fun x e => by have := (HSA.out.lo x e).1; have := HGZ.out; omega)
            have hSD : Sub wD (fun y => (S y ∧ y < w.heap.size) ∨ w.heap.size + 2 ≤ y) false (.slice none 0 0) (.slice a6 n6 c6) (.mk [] (kz.take s ++ (togS (tAt kz s) (tAt kz (s + 1)) ++ kz.drop (s + 1 + 1)))) := (hO6.subR (fun y _ h1 _ => .inr (by have := HGZ.out; omega)) (fun y hy _ => by
              rcases hy.1 with (h | h) | h
              · exact .inl h
              · exact .inr h.1
              · exact h.2)).sub HNE.out
            have HD2 := hid (hID.done (S := fun y => S y ∧ y < w.heap.size) hSD (fun y hy => hy.2))
            have r0 := hID.r.cell (j := 0) rfl
            have r1 := hID.r.cell (j := 1) rfl
            have r2 := hID.r.cell (j := 2) rfl
            have rf0 := hID.r.free 0
            have rf1 := hID.r.free 1
            have rf2 := hID.r.free 2
            have z0 := HD2.out.2.2.cell (j := 0) rfl
            have z1 := HD2.out.2.2.cell (j := 1) rfl
            have z2 := HD2.out.2.2.cell (j := 2) rfl
            clear hO6 hg6 ha6 hID hSD HDR
            go_wp2
            refine bodyPost_ret (v := .agg #[.bool false, .slice none 0 0, .slice a6 n6 c6]) ?_ rfl ?_
            · refine results_sub1 rfl _ _ _ rfl ?_ ?_ ?_
              · exact z0
              · exact z1
              · exact z2
            · refine ⟨_, _, _, _, _, _, _, rfl, ?_, HD2.out.2.1⟩
              rw [HF2.out]
              exact HD2.out.1.mono (fun y hy _ => hy.imp (fun h => h.1) id)
end Go.Proofs.Ytkflneeifllpgaa
/-
  spec.TreeDrop.
-/
namespace Go.Proofs.Ytkflneeifllpgaa
open Go.RowKit
theorem strip1_rootD (t : T) : strip1 t = rootD t := rfl
theorem dropV_small (ns : List NB) (k : ByteArray) : smallK ((dropV ns k).getD []) ∧ ((dropV ns k).getD []).length ≤ 100000 := by
  have h0 : smallK (([] : List NB)) ∧ ([] : List NB).length ≤ 100000 := ⟨fun i hi => by simp at hi, by simp⟩
  unfold dropV
  split
  · exact h0
  · rename_i t h
    split
    · exact layT_small (rootD_out (k := k) (okT_putIn h)).1 (by have := (dropV_size h k).2.1; omega)
    · exact h0
theorem rootD_ks1 {h : Nat} {t : T} {k : ByteArray} (g : PutIn h true t) : (rootD (dropF h t k)).ks.length ≠ 1 := by
  rcases (rootD_out (k := k) g).1 with h1 | h1
  · exact full_ks1 h1
  · rw [h1]; decide
set_option maxHeartbeats 2000000 in
set_option maxRecDepth 20000 in
theorem specTreeDrop_any (ns : List NB) (hlen : ns.length ≤ 1048576) (hsm : smallN ns) (S : Nat → Prop) (an : Option Addr) (nn cn : Nat) (k : ByteArray) (w : World) (hN : Nr w S (.slice an nn cn) ns) :
    Calls Try.prog 114 #[.agg #[.slice an nn cn], .string k] w fun e w' => STPost (dropV ns k) w e w' := by
  have h1 := hN.len.2.1
  have h2 := hN.len.2.2
  have HB0 : Hid (Below w.heap.size w ((w.alloc (.cells #[.slice an nn cn] 25)).alloc (.cells #[.slice none 0 0] 25))) := below_new (below_new (Below.refl _ _))
  have K0 : Hid (Bk ((w.alloc (.cells #[.slice an nn cn] 25)).alloc (.cells #[.slice none 0 0] 25)) (w.heap.size + 1) 25 [.slice none 0 0]) := by
    have := Bk.new (w.alloc (.cells #[.slice an nn cn] 25)) 25 [.slice none 0 0]
    show Bk _ _ _ _
    simpa using this
  have KA : Hid (Bk ((w.alloc (.cells #[.slice an nn cn] 25)).alloc (.cells #[.slice none 0 0] 25)) w.heap.size 25 [.slice an nn cn]) := (Bk.new w 25 [.slice an nn cn]).alloc _
  have a0 := KA.out.cell (j := 0) rfl
  have H0 := hid (hN.below HB0.out)
  have HLS := hid (And.intro hlen hsm)
  clear hN hlen hsm
  go_enter Try.func114, Try.ntmps114
  go_wp2_with fail
  refine (specTreeOk_any ns HLS.out.1 HLS.out.2 S an nn cn _ H0.out).mono ?_
  generalize (w.alloc (.cells #[.slice an nn cn] 25)).alloc (.cells #[.slice none 0 0] 25) = U at *
  rintro e w1 ⟨rfl, hb⟩
  have HB1 := hid (HB0.out.trans (hb.mono HB0.out.size))
  have K1 := hid (K0.out.below hb)
  have KA1 := hid (KA.out.below hb)
  have H1 := hid (H0.out.below hb)
  clear hb HB0 K0 H0 KA a0
  have HNO : Hid (∀ (X : World) (u : Value), Below w.heap.size w X → Below w.heap.size w (X.setCell ⟨w.heap.size + 1, 0, none⟩ u)) := fun X u hb => ⟨hb.os, hb.tape, hb.output, by simp [World.setCell]; exact hb.size, fun i hi => (Below.heap_setCell _ _ _ _ (show i ≠ w.heap.size + 1 by omega)).trans (hb.block i hi)⟩
  rw [spOk_eq]
  have c0 := K1.out.cell (j := 0) rfl
  have f0 := K1.out.free 0
  have d0 := (K1.out.set 0 (.slice none 0 0)).cell (j := 0) rfl
  cases hr : okT ns with
  | none =>
    have HR : Hid (dropV ns k = none) := by show _ = _; rw [dropV, hr]
    clear hr
    go_wp2
    refine bodyPost_ret (v := .tuple #[.agg #[.slice none 0 0], .bool false]) ?_ rfl ?_
    · refine results_tree2 rfl _ _ _ rfl rfl ?_
      exact d0
    · rw [HR.out]; exact ⟨_, _, _, rfl, NewK.nil _ _, HNO.out _ _ HB1.out⟩
  | some t =>
    have HR : Hid (dropV ns k = if kOk k = true then some (layT (rootD (dropF t.lv t k))) else none) := by show _ = _; rw [dropV, hr]
    cases hk : kOk k with
    | false =>
      have HR2 : Hid (dropV ns k = none) := by show _ = _; rw [HR.out, hk]; simp
      have HKO := hid (specKeyOk_is k false hk)
      clear hk HR hr
      go_wp2_with fail
      refine (HKO.out w1).mono ?_
      rintro e w2 ⟨rfl, rfl⟩
      go_wp2
      refine bodyPost_ret (v := .tuple #[.agg #[.slice none 0 0], .bool false]) ?_ rfl ?_
      · refine results_tree2 rfl _ _ _ rfl rfl ?_
        exact d0
      · rw [HR2.out]; exact ⟨_, _, _, rfl, NewK.nil _ _, HNO.out _ _ HB1.out⟩
    | true =>
      have HKO := hid (specKeyOk_is k true hk)
      have HR3 : Hid (dropV ns k = some (layT (rootD (dropF t.lv t k)))) := by show _ = _; rw [HR.out, hk]; simp
      have HOK := hid (okT_facts hr)
      have HG := hid (okT_putIn hr)
      have HRO := hid (rootD_out (k := k) (okT_putIn hr))
      have HSZ := hid (dropV_size hr k)
      have HDS : Hid (dropS t.lv t k = dropF t.lv t k) := dropS_eq t.lv true t k HG.out
      have HK1 := hid (rootD_ks1 (k := k) (okT_putIn hr))
      clear hk HR hr
      have g0 := KA1.out.cell (j := 0) rfl
      go_wp2_with fail
      refine (HKO.out w1).mono ?_
      rintro e w2 ⟨rfl, rfl⟩
      clear HKO c0 f0 d0
      go_wp2_with fail
      refine (specRoot_any ns HLS.out.1 HLS.out.2 S an nn cn w2 H1.out).mono ?_
      rintro e w3 ⟨hpost, hb⟩
      rw [HOK.out.root] at hpost
      obtain ⟨lf, ap, np, cp, ak, nk, ck, rfl, hs⟩ := hpost
      have HS3 := hid hs
      have HB3 := hid (Below.then' HB1.out hb (Nat.le_refl _))
      have K3 := hid (K1.out.below hb)
      clear hs hb K1 KA1 g0 HB1 H1
      have HB4 := hid (below_new (o := .cells #[.bool lf, .slice ap np cp, .slice ak nk ck] 74) (w := w3) (Below.refl _ _))
      have KS := hid (Bk.new w3 74 [.bool lf, .slice ap np cp, .slice ak nk ck])
      have k0 := KS.out.cell (j := 0) rfl
      have k1 := KS.out.cell (j := 1) rfl
      have k2 := KS.out.cell (j := 2) rfl
      go_wp2_with fail
      refine (specDrop_any t.lv true _ lf ap ak np cp nk ck t k _ (HS3.out.kept HB4.out) HG.out).mono ?_
      rintro e w5 ⟨l5, ap5, np5, cp5, ak5, nk5, ck5, rfl, hR5, hb5⟩
      rw [HDS.out] at hR5
      have HR5 := hid hR5
      have HB7 := hid (Below.then' (Below.then' HB3.out HB4.out (Nat.le_refl _)) hb5 (Nat.le_refl _))
      have K7 := hid ((K3.out.below HB4.out).below hb5)
      clear hR5 hb5 k0 k1 k2 KS HB4 HB3 K3 HS3
      have HT := hid (specTree_any _ l5 ap5 ak5 np5 cp5 nk5 ck5 (dropF t.lv t k) w5 HR5.out HK1.out HRO.out.1 (by have := HSZ.out.2.1; rw [strip1_rootD]; omega))
      go_wp2_with fail
      refine HT.out.mono ?_
      rintro e w8 ⟨a8, n8, c8, rfl, hN8, hb8⟩
      rw [strip1_rootD] at hN8
      have K8 := hid (K7.out.below hb8)
      have HB8 := hid (Below.then' HB7.out hb8 (Nat.le_refl _))
      have hwx : w.heap.size + 1 < w5.heap.size := K7.out.lt
      have HNN : Hid (NewK w (w8.setCell ⟨w.heap.size + 1, 0, none⟩ (.slice a8 n8 c8)) (.slice a8 n8 c8) (layT (rootD (dropF t.lv t k)))) := (NrK.to hN8 (only_set (R := fun y => y = w.heap.size + 1) rfl _) (fun y hy _ e => by have := hy.1; omega)).mono (fun y hy hl => ⟨by have := hy.1; omega, hl⟩)
      have e0 := K8.out.cell (j := 0) rfl
      have e1 := K8.out.free 0
      have d1 := (K8.out.set 0 (.slice a8 n8 c8)).cell (j := 0) rfl
      clear hN8 hb8 HT
      go_wp2
      refine bodyPost_ret (v := .tuple #[.agg #[.slice a8 n8 c8], .bool true]) ?_ rfl ?_
      · refine results_tree2 rfl _ _ _ rfl rfl ?_
        exact d1
      · rw [HR3.out]; exact ⟨_, _, _, rfl, HNN.out, HNO.out _ _ HB8.out⟩
end Go.Proofs.Ytkflneeifllpgaa
/-
  The trees that the laws draw: some trees that are not too large.
-/
namespace Go.Proofs.Ytkflneeifllpgaa
open Go.RowKit
set_option maxHeartbeats 4000000 in
theorem val_any (g : Nat) (w : World) (h : Cu w g) : Calls Try.prog 73 #[.pointer (some ⟨g, 0, none⟩)] w fun e w' => (∃ s : ByteArray, e = .returned (.string s)) ∧ w.grownBy w' (some g) ∧ Cu w' g := by
  have HC := hid h
  clear h
  go_enter Try.func73, Try.ntmps73
  go_wp2_with fail
  refine (below_any g 12 w HC.out (by omega) (by omega)).mono ?_
  rintro e w1 ⟨⟨x, rfl, hx0, hx1⟩, hg1, hc1⟩
  have HG1 := hid hg1
  have HC1 := hid hc1
  clear hg1 hc1 HC
  by_cases h0 : x = 0
  · subst h0
    clear hx0 hx1
    go_wp2
    go_ret
    exact ⟨⟨_, rfl⟩, HG1.out, HC1.out⟩
  · by_cases h1 : x = 1
    · subst h1
      clear hx0 hx1 h0
      have hmk := made_any 60 60 (by omega) (by omega)
      have hst := run_str (rd_made w1 60 (by omega))
      generalize strOf (List.replicate 60 0) = s6 at hst
      go_wp2
      go_ret
      exact ⟨⟨_, rfl⟩, grownBy_trans HG1.out (grownBy_alloc _ _ _), HC1.out.alloc _⟩
    · go_wp2_with fail
      refine (below_any g 50 w1 HC1.out (by omega) (by omega)).mono ?_
      rintro e w2 ⟨⟨y, rfl, hy0, hy1⟩, hg2, hc2⟩
      have HG2 := hid (grownBy_trans HG1.out hg2)
      have HC2 := hid hc2
      clear hg2 hc2 HG1 HC1
      go_wp2_with fail
      refine (numText_any y w2 hy0 (by omega)).mono ?_
      rintro e w3 ⟨⟨s, rfl, hs⟩, hb3⟩
      have HG3 := hid (grownBy_trans HG2.out (grown_of_below hb3 _))
      have HC3 := hid (HC2.out.below hb3)
      clear hb3 HG2 HC2
      go_wp2
      go_ret
      exact ⟨⟨_, rfl⟩, HG3.out, HC3.out⟩
/-- A drawn tree: some small list of nodes in blocks that are new and not the cursor's. -/
structure Tw (w v : World) (g tb S : Nat) (a : Option Addr) (n c : Nat) (ns : List NB) : Prop where
  gr : w.grownBy v (some g)
  cu : Cu v g
  bk : Bk v tb 25 [.slice a n c]
  nr : NrK v (fun y => tb < y ∧ y < S) (.slice a n c) ns
  sm : smallK ns ∧ ns.length ≤ 100000
  ng : g < w.heap.size
  nb : w.heap.size ≤ tb
  sz : S ≤ v.heap.size
theorem Tw.lt {w v : World} {g tb S : Nat} {a : Option Addr} {n c : Nat} {ns : List NB} (h : Tw w v g tb S a n c ns) : tb < v.heap.size := h.bk.lt
/-- What touches the cursor alone, or makes new blocks. -/
theorem Tw.step {w v v' : World} {g tb S : Nat} {a : Option Addr} {n c : Nat} {ns : List NB} (h : Tw w v g tb S a n c ns) (hg : v.grownBy v' (some g)) (hc : Cu v' g) : Tw w v' g tb S a n c ns := by
  have hon : Only (fun y => y = g) v v' := only_of_grown hg (fun k e => by cases e; rfl)
  exact ⟨grownBy_trans h.gr hg, hc, h.bk.to hon (by have := h.ng; have := h.nb; omega), h.nr.to hon (fun y hy _ e => by have := h.ng; have := h.nb; have := hy.1; omega), h.sm, h.ng, h.nb, Nat.le_trans h.sz hg.size⟩
theorem Tw.below {w v v' : World} {g tb S : Nat} {a : Option Addr} {n c : Nat} {ns : List NB} (h : Tw w v g tb S a n c ns) (hb : Below v.heap.size v v') : Tw w v' g tb S a n c ns := h.step (grown_of_below hb _) (h.cu.below hb)
theorem small_smallN {ns : List NB} (h : smallK ns ∧ ns.length ≤ 100000) : smallN ns ∧ ns.length ≤ 1048576 := ⟨fun i hi => by have := h.1 i hi; omega, by have := h.2; omega⟩
/-- Another tree is stored. -/
theorem Tw.put {w v v' : World} {g tb S : Nat} {a a' : Option Addr} {n c n' c' : Nat} {ns ns' : List NB} (h : Tw w v g tb S a n c ns) (hb : Below v.heap.size v v') (hN : NewK v v' (.slice a' n' c') ns') (hs : smallK ns' ∧ ns'.length ≤ 100000) : Tw w (v'.setCell ⟨tb, 0, none⟩ (.slice a' n' c')) g tb v'.heap.size a' n' c' ns' := by
  have h2 := h.below hb
  have hlt := h.lt
  have hsz := h.gr.size
  have hon : Only (fun y => y = tb) v' (v'.setCell ⟨tb, 0, none⟩ (.slice a' n' c')) := only_set (R := fun y => y = tb) rfl _
  refine ⟨⟨h2.gr.os, h2.gr.tape, h2.gr.output, by simp [World.setCell]; exact h2.gr.size, fun i hi hne => (Below.heap_setCell _ _ _ _ (show i ≠ tb by have := h.nb; omega)).trans (h2.gr.block i hi hne)⟩, ?_, h2.bk.set 0 _, ?_, hs, h.ng, h.nb, by simp [World.setCell]⟩
  · exact h2.cu.set _ _ _ (by have := h.ng; have := h.nb; omega)
  · exact (NrK.to hN hon (fun y hy _ e => by have := hy.1; omega)).mono (fun y hy hl => ⟨by have := hy.1; omega, by simpa [World.setCell] using hl⟩)
theorem Tw.put' {w v : World} {g tb S : Nat} {a a' : Option Addr} {n c n' c' : Nat} {ns ns' : List NB} (h : Tw w v g tb S a n c ns) (hN : NrK v (fun y => tb < y) (.slice a' n' c') ns') (hs : smallK ns' ∧ ns'.length ≤ 100000) : Tw w (v.setCell ⟨tb, 0, none⟩ (.slice a' n' c')) g tb v.heap.size a' n' c' ns' := by
  have hon : Only (fun y => y = tb) v (v.setCell ⟨tb, 0, none⟩ (.slice a' n' c')) := only_set (R := fun y => y = tb) rfl _
  refine ⟨⟨h.gr.os, h.gr.tape, h.gr.output, by simp [World.setCell]; exact h.gr.size, fun i hi hne => (Below.heap_setCell _ _ _ _ (show i ≠ tb by have := h.nb; omega)).trans (h.gr.block i hi hne)⟩, ?_, h.bk.set 0 _, ?_, hs, h.ng, h.nb, by simp [World.setCell]⟩
  · exact h.cu.set _ _ _ (by have := h.ng; have := h.nb; omega)
  · exact (hN.to hon (fun y hy _ e => by omega)).mono (fun y hy hl => ⟨hy, by simpa [World.setCell] using hl⟩)
theorem Tw.alloc {w v : World} {g tb S : Nat} {a : Option Addr} {n c : Nat} {ns : List NB} (h : Tw w v g tb S a n c ns) (o : Obj) : Tw w (v.alloc o) g tb S a n c ns := h.below (below_new (Below.refl _ _))
theorem Tw.drew {w v : World} {g tb S : Nat} {a : Option Addr} {n c : Nat} {ns : List NB} (h : Tw w v g tb S a n c ns) : Tw w v.drew g tb S a n c ns := h.below (below_drew _)
/-- A new box for a tree, behind the drawn one. -/
def NewB (tb S : Nat) (v : World) (x : Nat) : Prop := Bk v x 25 [.slice none 0 0] ∧ tb < x ∧ S ≤ x
theorem newB {w v : World} {g tb S : Nat} {a : Option Addr} {n c : Nat} {ns : List NB} (h : Tw w v g tb S a n c ns) : NewB tb S (v.alloc (.cells #[.slice none 0 0] 25)) v.heap.size := ⟨Bk.new v 25 [.slice none 0 0], h.lt, h.sz⟩
theorem NewB.below {tb S x : Nat} {v v' : World} (h : NewB tb S v x) (hb : Below v.heap.size v v') : NewB tb S v' x := ⟨h.1.below hb, h.2⟩
theorem tr_grown {v v' : World} {x g W : Nat} {T : TypeId} {vs : List Value} (h : Bk v x T vs) (hg : v.grownBy v' (some g)) (hn : g < W) (hx : W ≤ x := by omega) : Bk v' x T vs := h.to (only_of_grown hg (R := fun y => y = g) (fun k e => by cases e; rfl)) (by omega)
theorem NewB.grown {tb S x g : Nat} {w v v' u : World} {a : Option Addr} {n c : Nat} {ns : List NB} (h : NewB tb S v x) (hg : v.grownBy v' (some g)) (hD : Tw w u g tb S a n c ns) : NewB tb S v' x := ⟨tr_grown h.1 hg hD.ng (by have := hD.nb; have := h.2.1; omega), h.2⟩
/-- What stands behind 'next, ok := TreePut(..)'. -/
def PutR (w : World) (g S : Nat) (a : Option Addr) (n c : Nat) (ns : List NB) (x z : Value) (v : World) : Prop := ∃ (nb : Nat) (b : Bool) (a5 : Option Addr) (n5 c5 : Nat) (ns5 : List NB), x = .pointer (some ⟨nb, 0, none⟩) ∧ z = .bool b ∧ Hid (Tw w v g (w.heap.size + 1) S a n c ns) ∧ Hid (Bk v nb 25 [.slice a5 n5 c5] ∧ w.heap.size + 1 < nb) ∧ Hid (NrK v (fun y => w.heap.size + 1 < y) (.slice a5 n5 c5) ns5) ∧ Hid (smallK ns5 ∧ ns5.length ≤ 100000) ∧ Hid (Bk v w.heap.size 25 [.slice none 0 0])
theorem fin2 {w v v' : World} {g S : Nat} {a a5 : Option Addr} {n c n5 c5 : Nat} {ns ns5 : List NB} {ok : Bool} (D : Tw w v g (w.heap.size + 1) S a n c ns) (R : Bk v w.heap.size 25 [.slice none 0 0]) (hN : NewK v v' (.slice a5 n5 c5) ns5) (hb : Below v.heap.size v v') (hs : smallK ns5 ∧ ns5.length ≤ 100000) : PutR w g S a n c ns (.pointer (some ⟨v'.heap.size, 0, none⟩)) (.bool ok) (v'.alloc (.cells #[.slice a5 n5 c5] 25)) := by
  have h4 := D.lt
  exact ⟨_, _, _, _, _, _, rfl, rfl, (D.below hb).alloc _, ⟨Bk.new v' 25 [.slice a5 n5 c5], (D.below hb).lt⟩, (NrK.below hN (below_new (Below.refl _ _))).mono (fun y hy _ => by have := hy.1; omega), hs, (R.below hb).alloc _⟩
theorem fin1 {w v v' : World} {g x S : Nat} {a a5 : Option Addr} {n c n5 c5 : Nat} {ns ns5 : List NB} {ok : Bool} (D : Tw w v g (w.heap.size + 1) S a n c ns) (R : Bk v w.heap.size 25 [.slice none 0 0]) (N : NewB (w.heap.size + 1) S v x) (hN : NewK v v' (.slice a5 n5 c5) ns5) (hb : Below v.heap.size v v') (hs : smallK ns5 ∧ ns5.length ≤ 100000) : PutR w g S a n c ns (.pointer (some ⟨x, 0, none⟩)) (.bool ok) (v'.setCell ⟨x, 0, none⟩ (.slice a5 n5 c5)) := by
  have h4 := D.lt
  have hx := N.2.1
  have hxS := N.2.2
  have hxl := N.1.lt
  have hon : Only (fun y => y = x) v' (v'.setCell ⟨x, 0, none⟩ (.slice a5 n5 c5)) := only_set (R := fun y => y = x) rfl _
  have D' := D.below hb
  have hg : v'.grownBy (v'.setCell ⟨x, 0, none⟩ (.slice a5 n5 c5)) (some x) := ⟨rfl, rfl, rfl, by simp [World.setCell], fun i _ hne => Below.heap_setCell _ _ _ _ (by intro e; exact hne (by rw [e]))⟩
  have hnb := D.nb
  refine ⟨_, _, _, _, _, _, rfl, rfl, ?_, ⟨(N.1.below hb).set 0 _, hx⟩, ?_, hs, (R.below hb).setOther (by omega) _ _⟩
  · refine ⟨⟨D'.gr.os, D'.gr.tape, D'.gr.output, by simp [World.setCell]; exact D'.gr.size, fun i hi hne => (Below.heap_setCell _ _ _ _ (show i ≠ x by omega)).trans (D'.gr.block i hi hne)⟩, D'.cu.set _ _ _ (by have := D.ng; omega), D'.bk.setOther (by omega) _ _, ?_, D.sm, D.ng, D.nb, by simp [World.setCell]; exact D'.sz⟩
    exact D'.nr.to hon (fun y hy _ e => by have := hy.2; omega)
  · exact (NrK.to hN hon (fun y hy _ e => by have := hy.1; omega)).mono (fun y hy _ => by have := hy.1; omega)
/-- What a drawn tree is. -/
def TwPost (w : World) (g : Nat) (e : Ending) (w' : World) : Prop := ∃ a n c ns, e = .returned (.agg #[.slice a n c]) ∧ w.grownBy w' (some g) ∧ Cu w' g ∧ NrK w' (fun y => w.heap.size ≤ y ∧ y < w'.heap.size) (.slice a n c) ns ∧ smallK ns ∧ ns.length ≤ 100000
set_option maxHeartbeats 4000000 in
set_option maxRecDepth 20000 in
theorem drawT_any (g : Nat) (most : Nat) (w : World) (h : Cu w g) (hm : most ≤ 100) : Calls Try.prog 67 #[.pointer (some ⟨g, 0, none⟩), .int .i64 (most : Int)] w fun e w' => TwPost w g e w' := by
  have hng := h.lt
  have HR0 := hid (Bk.new w 25 [.slice none 0 0])
  have KT : Hid (Bk ((w.alloc (.cells #[.slice none 0 0] 25)).alloc (.cells #[.slice none 0 0] 25)) (w.heap.size + 1) 25 [.slice none 0 0]) := by
    have := Bk.new (w.alloc (.cells #[.slice none 0 0] 25)) 25 [.slice none 0 0]
    show Bk _ _ _ _
    simpa using this
  have D0 : Hid (Tw w ((w.alloc (.cells #[.slice none 0 0] 25)).alloc (.cells #[.slice none 0 0] 25)) g (w.heap.size + 1) (w.heap.size + 2) none 0 0 []) := ⟨grownBy_trans (grownBy_alloc _ _ _) (grownBy_alloc _ _ _), (h.alloc _).alloc _, KT.out, nrK_nil _ _, ⟨fun i hi => by simp at hi, by simp⟩, hng, by omega, by simp⟩
  have R0 : Hid (Bk ((w.alloc (.cells #[.slice none 0 0] 25)).alloc (.cells #[.slice none 0 0] 25)) w.heap.size 25 [.slice none 0 0]) := HR0.out.alloc _
  clear h HR0 KT
  go_enter Try.func67, Try.ntmps67
  go_wp2_with fail
  refine (below_any g ((most : Int) + 1) _ D0.out.cu (by omega) (by omega)).mono ?_
  generalize (w.alloc (.cells #[.slice none 0 0] 25)).alloc (.cells #[.slice none 0 0] 25) = U at *
  rintro e w1 ⟨⟨x, rfl, hx0, hx1⟩, hg1, hc1⟩
  have D1 := hid (D0.out.step hg1 hc1)
  have R1 : Hid (Bk w1 w.heap.size 25 [.slice none 0 0]) := R0.out.to (only_of_grown hg1 (R := fun y => y = g) (fun k e => by cases e; rfl)) (by omega)
  obtain ⟨x, rfl⟩ := Int.eq_ofNat_of_zero_le hx0
  have hxm : x ≤ 100 := by omega
  clear hg1 hc1 D0 R0 hx0 hx1
  go_wp2_with fail
  go_loopw [6] (fun z wr => ∃ (j S : Nat) (a : Option Addr) (n c : Nat) (ns : List NB), j ≤ 100 ∧ z = .int .i64 (j : Int) ∧ Hid (Tw w wr g (w.heap.size + 1) S a n c ns) ∧ Hid (Bk wr w.heap.size 25 [.slice none 0 0])) (fun z _ => (intOf z).toNat)
  case atStart => exact ⟨x, _, _, _, _, _, hxm, rfl, D1.out, R1.out⟩
  case round =>
    obtain ⟨j, S, a, n, c, ns, hj, rfl, HD, HR⟩ := hrel
    by_cases hlt : 0 < j
    · have hlt' : (0 : Int) < (j : Int) := by omega
      go_wp2_with fail
      refine (below_any g 5 _ HD.out.cu (by omega) (by omega)).mono ?_
      rintro e w2 ⟨⟨y, rfl, hy0, hy1⟩, hg1, hc1⟩
      have D2 := hid (HD.out.step hg1 hc1)
      have R2 : Hid (Bk w2 w.heap.size 25 [.slice none 0 0]) := HR.out.to (only_of_grown hg1 (R := fun y => y = g) (fun k e => by cases e; rfl)) (by omega)
      clear hg1 hc1 HD HR
      by_cases hy : y = 0
      · subst hy
        have t0 := D2.out.bk.cell (j := 0) rfl
        have HFIN : Hid (∀ (w3 w4 : World) (k : ByteArray) (a4 : Option Addr) (n4 c4 : Nat), w2.drew.grownBy w3 (some g) → Cu w3 g → NewK w3 w4 (.slice a4 n4 c4) ((dropV ns k).getD []) → Below w3.heap.size w3 w4 → Tw w (w4.setCell ⟨w.heap.size + 1, 0, none⟩ (.slice a4 n4 c4)) g (w.heap.size + 1) w4.heap.size a4 n4 c4 ((dropV ns k).getD []) ∧ Bk (w4.setCell ⟨w.heap.size + 1, 0, none⟩ (.slice a4 n4 c4)) w.heap.size 25 [.slice none 0 0]) := by
          intro w3 w4 k a4 n4 c4 hg hc hN hb
          refine ⟨(D2.out.drew.step hg hc).put hb hN (dropV_small ns k), ?_⟩
          have r3 : Bk w3 w.heap.size 25 [.slice none 0 0] := (R2.out.below (below_drew _)).to (only_of_grown hg (R := fun y => y = g) (fun k e => by cases e; rfl)) (by omega)
          exact (r3.below hb).setOther (by omega) _ _
        go_wp2_with fail
        go_region_with (first
          | (go_at_call 69; refine (key_any g _ D2.out.drew.cu).mono ?_; rintro e w3 ⟨⟨k, rfl, hk⟩, hg3, hc3⟩; have D3 := D2.out.drew.step hg3 hc3; have t3 := D3.bk.cell (j := 0) rfl)
          | (go_at_call 114; refine (specTreeDrop_any ns (small_smallN D3.sm).2 (small_smallN D3.sm).1 _ a n c k _ D3.nr.nr).mono ?_; rintro e w4 ⟨a4, n4, c4, rfl, hN4, hb4⟩; have t4 := (D3.below hb4).bk.cell (j := 0) rfl; have tf4 := (D3.below hb4).bk.free 0))
        all_goals
          have HF := hid (HFIN.out _ _ _ _ _ _ hg3 hc3 hN4 hb4)
          clear HFIN t0 D3 t3 hg3 hc3 hN4 hb4
          go_wp2
          go_roundw
          case rel => exact ⟨j - 1, _, _, _, _, _, by omega, by go_num, HF.out.1, HF.out.2⟩
          case measure => simp [intOf]; omega
      · have hy' : ¬ y = 0 := hy
        have t0 := D2.out.bk.cell (j := 0) rfl
        have t0a := (D2.out.alloc (.cells #[.slice none 0 0] 25)).bk.cell (j := 0) rfl
        go_wp2_with fail
        go_cut [7, 8] (fun x z v => PutR w g S a n c ns x z v)
        case first =>
          go_region_with (first
            | (go_at_call 69; refine (key_any g _ (by first | exact D2.out.drew.cu | exact (D2.out.drew.alloc _).cu)).mono ?_; rintro e w3 ⟨⟨k, rfl, hk⟩, hg3, hc3⟩; have D3 : Tw w w3 g (w.heap.size + 1) S a n c ns := (by first | exact D2.out.drew.step hg3 hc3 | exact (D2.out.drew.alloc _).step hg3 hc3); have t3 := D3.bk.cell (j := 0) rfl; have t3a := (D3.alloc (.cells #[.slice none 0 0] 25)).bk.cell (j := 0) rfl; have R3 : Bk w3 w.heap.size 25 [.slice none 0 0] := (by first | exact tr_grown (R2.out.below (below_drew _)) hg3 hng | exact tr_grown ((R2.out.below (below_drew _)).alloc _) hg3 hng); try (have n3 : NewB (w.heap.size + 1) S w3 w2.heap.size := (newB D2.out.drew).grown hg3 D2.out.drew))
            | (go_at_call 73; refine (val_any g _ (by first | exact D3.cu | exact (D3.alloc _).cu)).mono ?_; rintro e w4 ⟨⟨v, rfl⟩, hg4, hc4⟩; have D4 : Tw w w4 g (w.heap.size + 1) S a n c ns := (by first | exact D3.step hg4 hc4 | exact (D3.alloc _).step hg4 hc4); have t4 := D4.bk.cell (j := 0) rfl; have t4a := (D4.alloc (.cells #[.slice none 0 0] 25)).bk.cell (j := 0) rfl; have R4 : Bk w4 w.heap.size 25 [.slice none 0 0] := (by first | exact tr_grown R3 hg4 hng | exact tr_grown (R3.alloc _) hg4 hng); first | (have n4 := n3.grown hg4 D3) | (have n4 := (newB D3).grown hg4 D3) | skip)
            | (go_at_call 8; refine (specTreePut_any ns (small_smallN D4.sm).2 (small_smallN D4.sm).1 _ a n c k v _ (by first | exact D4.nr.nr | exact (D4.alloc _).nr.nr)).mono ?_; rintro e w5 ⟨a5, n5, c5, rfl, hN5, hb5⟩; first | (have m5 := n4.below hb5; have q5 := m5.1.cell (j := 0) rfl; have f5 := m5.1.free 0) | (have m5 := (newB D4).below hb5; have q5 := m5.1.cell (j := 0) rfl; have f5 := m5.1.free 0) | skip))
          all_goals (go_wp2_with fail; go_meet)
          all_goals first
            | exact fin2 D4 R4 hN5 hb5 (putV_small ns k v)
            | exact fin1 D4 R4 n4 hN5 hb5 (putV_small ns k v)
            | exact fin1 (D4.alloc _) (R4.alloc _) (newB D4) hN5 hb5 (putV_small ns k v)
        case rest =>
          obtain ⟨nb, b, a5, n5, c5, ns5, rfl, rfl, HD5, HB5, HN5, HS5, HR5⟩ := hcut
          clear t0 t0a
          cases b with
          | false =>
            go_wp2
            go_roundw
            case rel => exact ⟨j - 1, S, a, n, c, ns, by omega, by go_num, HD5.out, HR5.out⟩
            case measure => simp [intOf]; omega
          | true =>
            have q0 := HB5.out.1.cell (j := 0) rfl
            have q1 := HD5.out.bk.cell (j := 0) rfl
            have q2 := HD5.out.bk.free 0
            have HD6 := hid (HD5.out.put' HN5.out HS5.out)
            have HR6 : Hid (Bk _ w.heap.size 25 [.slice none 0 0]) := HR5.out.setOther (b := w.heap.size + 1) (by omega) 0 (.slice a5 n5 c5)
            go_wp2
            go_roundw
            case rel => exact ⟨j - 1, _, a5, n5, c5, ns5, by omega, by go_num, HD6.out, HR6.out⟩
            case measure => simp [intOf]; omega
    · obtain rfl : j = 0 := by omega
      have t0 := HD.out.bk.cell (j := 0) rfl
      have r0 := HR.out.cell (j := 0) rfl
      have rf := HR.out.free 0
      have d1 := (HR.out.set 0 (.slice a n c)).cell (j := 0) rfl
      have HFIN : Hid (TwPost w g (.returned (.agg #[.slice a n c])) (wr.setCell ⟨w.heap.size, 0, none⟩ (.slice a n c))) := by
        have hon : Only (fun y => y = w.heap.size) wr (wr.setCell ⟨w.heap.size, 0, none⟩ (.slice a n c)) := only_set (R := fun y => y = w.heap.size) rfl _
        refine ⟨a, n, c, ns, rfl, ⟨HD.out.gr.os, HD.out.gr.tape, HD.out.gr.output, by simp [World.setCell]; exact HD.out.gr.size, fun i hi hne => (Below.heap_setCell _ _ _ _ (show i ≠ w.heap.size by omega)).trans (HD.out.gr.block i hi hne)⟩, HD.out.cu.set _ _ _ (by omega), ?_, HD.out.sm⟩
        exact (HD.out.nr.to hon (fun y hy _ e => by have := hy.1; omega)).mono (fun y hy hl => ⟨by have := hy.1; omega, hl⟩)
      clear HD HR
      go_wp2
      refine bodyPost_ret (v := .agg #[.slice a n c]) ?_ rfl ?_
      · refine results_tree1 rfl _ _ _ rfl ?_
        exact d1
      · exact HFIN.out
end Go.Proofs.Ytkflneeifllpgaa
/-
  l03Any's trees: a drawn tree of which one thing may have been turned is still some list of nodes that is not too long.
-/
namespace Go.Proofs.Ytkflneeifllpgaa
open Go.RowKit
theorem NrK.na {w : World} {S : Nat → Prop} {v : Value} {ns : List NB} (h : NrK w S v ns) : ∃ V, NA w v V ns ∧ (∀ y, v.ownBlock = some y → S y) ∧ ∀ i, i < ns.length → ∀ y, bl (vAt V i) y → S y := by
  obtain ⟨V, h1, h2, h3, h4, h5⟩ := h
  exact ⟨V, ⟨h1, h2.1, fun i hi => ⟨(h3 i hi).2.1, (h3 i hi).2.2.1⟩, h4, h5⟩, h2.2, fun i hi => (h3 i hi).2.2.2⟩
/-- The cursor g, the result's box and the box tb of the tree. -/
structure Fr (w v : World) (g tb : Nat) (a : Option Addr) (n c : Nat) : Prop where
  gr : w.grownBy v (some g)
  cu : Cu v g
  bk : Bk v tb 25 [.slice a n c]
  rb : Bk v w.heap.size 25 [.slice none 0 0]
  ng : g < w.heap.size
  nb : w.heap.size < tb
theorem Fr.touch {w v v' : World} {g tb : Nat} {a : Option Addr} {n c : Nat} {row : Option Nat} (h : Fr w v g tb a n c) (hg : v.grownBy v' row) (hr : ∀ k, row = some k → w.heap.size < k ∧ k ≠ tb) : Fr w v' g tb a n c := by
  have hs := h.gr.size
  have hn := h.ng
  have hb := h.nb
  have hon : Only (fun y => row = some y) v v' := only_of_grown hg (fun k e => e)
  exact ⟨⟨hg.os.trans h.gr.os, hg.tape.trans h.gr.tape, hg.output.trans h.gr.output, Nat.le_trans hs hg.size, fun i hi hne => (hg.block i (by omega) (fun e => by have := hr i e.symm; omega)).trans (h.gr.block i hi hne)⟩, h.cu.kept hg (fun k e => by have := hr k e; omega), h.bk.to hon (fun e => by have := hr _ e; omega), h.rb.to hon (fun e => by have := hr _ e; omega), hn, hb⟩
theorem Fr.draw {w v v' : World} {g tb : Nat} {a : Option Addr} {n c : Nat} (h : Fr w v g tb a n c) (hg : v.grownBy v' (some g)) (hc : Cu v' g) : Fr w v' g tb a n c := by
  have hn := h.ng
  have hb := h.nb
  have hon := only_of_grown hg (R := fun y => y = g) (fun k e => by cases e; rfl)
  exact ⟨grownBy_trans h.gr hg, hc, h.bk.to hon (by omega), h.rb.to hon (by omega), hn, hb⟩
theorem Fr.below {w v v' : World} {g tb : Nat} {a : Option Addr} {n c : Nat} (h : Fr w v g tb a n c) (hb : Below v.heap.size v v') : Fr w v' g tb a n c := h.touch (grown_of_below hb none) (fun k e => by cases e)
theorem Fr.setBox {w v : World} {g tb : Nat} {a : Option Addr} {n c : Nat} (h : Fr w v g tb a n c) (a' : Option Addr) (n' c' : Nat) : Fr w (v.setCell ⟨tb, 0, none⟩ (.slice a' n' c')) g tb a' n' c' := by
  have hn := h.ng
  have hb := h.nb
  exact ⟨⟨h.gr.os, h.gr.tape, h.gr.output, by simp [World.setCell]; exact h.gr.size, fun i hi hne => (Below.heap_setCell _ _ _ _ (show i ≠ tb by omega)).trans (h.gr.block i hi hne)⟩, h.cu.set _ _ _ (by omega), h.bk.set 0 _, h.rb.setOther (by omega) _ _, hn, hb⟩
/-- What is answered: some nodes, not too many, in new blocks. -/
def AnyPost (w : World) (g : Nat) (e : Ending) (w' : World) : Prop := ∃ a n c ns, e = .returned (.agg #[.slice a n c]) ∧ w.grownBy w' (some g) ∧ Cu w' g ∧ Nr w' (fun y => w.heap.size ≤ y) (.slice a n c) ns ∧ smallN ns ∧ ns.length ≤ 1048576
theorem Fr.fin {w v : World} {g tb : Nat} {a : Option Addr} {n c : Nat} {ns : List NB} (h : Fr w v g tb a n c) (hN : Nr v (fun y => w.heap.size < y ∧ y ≠ tb) (.slice a n c) ns) (hs : smallN ns ∧ ns.length ≤ 1048576) : AnyPost w g (.returned (.agg #[.slice a n c])) (v.setCell ⟨w.heap.size, 0, none⟩ (.slice a n c)) := by
  have hn := h.ng
  refine ⟨a, n, c, ns, rfl, ⟨h.gr.os, h.gr.tape, h.gr.output, by simp [World.setCell]; exact h.gr.size, fun i hi hne => (Below.heap_setCell _ _ _ _ (show i ≠ w.heap.size by omega)).trans (h.gr.block i hi hne)⟩, h.cu.set _ _ _ (by omega), ?_, hs⟩
  exact (hN.to (only_set (R := fun y => y = w.heap.size) rfl _) (fun y hy _ e => by have := hy.1; omega)).mono (fun y hy _ => by have := hy.1; omega)
/-- A drawn tree with its rows. -/
structure Ta (w v : World) (g tb : Nat) (a : Option Addr) (n c : Nat) (V : List V3) (ns : List NB) : Prop where
  fr : Fr w v g tb a n c
  na : NA v (.slice a n c) V ns
  lo : (∀ y, (Value.slice a n c).ownBlock = some y → w.heap.size < y ∧ y ≠ tb) ∧ ∀ i, i < ns.length → ∀ y, bl (vAt V i) y → w.heap.size < y ∧ y ≠ tb
  sm : smallK ns ∧ ns.length ≤ 100000
theorem Ta.draw {w v v' : World} {g tb : Nat} {a : Option Addr} {n c : Nat} {V : List V3} {ns : List NB} (h : Ta w v g tb a n c V ns) (hg : v.grownBy v' (some g)) (hc : Cu v' g) : Ta w v' g tb a n c V ns := by
  have hn := h.fr.ng
  have hon := only_of_grown hg (R := fun y => y = g) (fun k e => by cases e; rfl)
  exact ⟨h.fr.draw hg hc, h.na.to hon (fun y hy e => by have := h.lo.1 y hy; omega) (fun i hi y hy e => by have := h.lo.2 i hi y hy; omega), h.lo, h.sm⟩
theorem Ta.below {w v v' : World} {g tb : Nat} {a : Option Addr} {n c : Nat} {V : List V3} {ns : List NB} (h : Ta w v g tb a n c V ns) (hb : Below v.heap.size v v') : Ta w v' g tb a n c V ns := ⟨h.fr.below hb, h.na.kept hb, h.lo, h.sm⟩
theorem NA.nrS {w : World} {S : Nat → Prop} {v : Value} {V : List V3} {ns : List NB} (h : NA w v V ns) (h1 : ∀ y, v.ownBlock = some y → S y) (h2 : ∀ i, i < ns.length → ∀ y, bl (vAt V i) y → S y) : Nr w S v ns :=
  ⟨V, h.len, rw_own h.row (fun k e _ _ => h1 k e), fun i hi => (h.own i hi).1.n1 (h2 i hi)⟩
theorem split_at {ns : List NB} {i : Nat} (h : i < ns.length) : ∃ ms z l, ns = ms ++ z :: l ∧ i = ms.length := ⟨ns.take i, ns[i], ns.drop (i + 1), by simp, by simp; omega⟩
theorem small_mid {ms l : List NB} {z z' : NB} (h : smallK (ms ++ z :: l) ∧ (ms ++ z :: l).length ≤ 100000) (hz : z'.ps.length ≤ z.ps.length + 1 ∧ z'.keys.length ≤ z.keys.length + 1 ∧ z'.kids.length ≤ z.kids.length + 1) : smallN (ms ++ z' :: l) ∧ (ms ++ z' :: l).length ≤ 1048576 := by
  have h0 := h.1 ms.length (by simp)
  rw [nAt_append_at] at h0
  refine ⟨fun i hi => ?_, by have := h.2; simp at this ⊢; omega⟩
  have hi' : i < (ms ++ z :: l).length := by simpa using hi
  by_cases e : i = ms.length
  · subst e; rw [nAt_append_at]; omega
  · rw [nAt_other ms z z' l e]; have := h.1 i hi'; omega
theorem set_vAt (V : List V3) (i : Nat) (h : i < V.length) : V.set i (vAt V i) = V := by
  apply List.ext_getElem?
  intro j
  rw [List.getElem?_set]
  split
  · rename_i e
    subst e
    simp [vAt, h]
  · rfl
/-- The rows of one node have turned. -/
theorem NA.poke {u w2 : World} {g0 n c : Nat} {V : List V3} {ms l : List NB} {z z' : NB} (h : NA u (.slice (some ⟨g0, 0, none⟩) n c) V (ms ++ z :: l)) (ho : Only (bl (vAt V ms.length)) u w2) (hown : OwN w2 (vAt V ms.length) z') : NA w2 (.slice (some ⟨g0, 0, none⟩) n c) V (ms ++ z' :: l) := by
  have hlt : ms.length < (ms ++ z :: l).length := by simp
  have e := set_vAt V ms.length (by rw [h.len]; exact hlt)
  have := h.upd (p' := vAt V ms.length) (z' := z') (w3 := w2) rfl ho hown (h.own _ hlt).2 (fun y hy => .inl hy) (Only.refl _ _) (by rw [e]; exact own_kept h.row ho (fun k hk hb => h.off _ hlt k hb hk))
  rwa [e] at this
theorem NA.pokeP {u : World} {g0 n c : Nat} {V : List V3} {ms l : List NB} {z : NB} (h : NA u (.slice (some ⟨g0, 0, none⟩) n c) V (ms ++ z :: l)) {pb np cp : Nat} (e : (vAt V ms.length).1 = .slice (some ⟨pb, 0, none⟩) np cp) {k0 v0 : ByteArray} {r : List PB} (hz : z.ps = (k0, v0) :: r) (s : ByteArray) :
    NA (u.setCell ⟨pb, 0, none⟩ (.string s)) (.slice (some ⟨g0, 0, none⟩) n c) V (ms ++ ⟨(s, v0) :: r, z.keys, z.kids⟩ :: l) := by
  have hlt : ms.length < (ms ++ z :: l).length := by simp
  obtain ⟨h1, h2⟩ := h.own _ hlt
  rw [nAt_append_at] at h1
  have hb : (vAt V ms.length).1.ownBlock = some pb := by rw [e]; rfl
  have ho : Only (fun y => y = pb) u (u.setCell ⟨pb, 0, none⟩ (.string s)) := only_set (R := fun y => y = pb) rfl _
  refine h.poke (ho.mono (fun y _ hy => .inl (by rw [hb, hy]))) ⟨?_, own_kept h1.2.1 ho (fun k hk hy => ((h2 pb).1 hb).1 (hy ▸ hk)), own_kept h1.2.2 ho (fun k hk hy => ((h2 pb).1 hb).2 (hy ▸ hk))⟩
  have := h1.1
  rw [e, hz] at this
  rw [e]
  exact row_set this 0 (.string s)
theorem NA.pokeK {u : World} {g0 n c : Nat} {V : List V3} {ms l : List NB} {z : NB} (h : NA u (.slice (some ⟨g0, 0, none⟩) n c) V (ms ++ z :: l)) {pb np cp : Nat} (e : (vAt V ms.length).2.1 = .slice (some ⟨pb, 0, none⟩) np cp) {k0 : ByteArray} {r : List ByteArray} (hz : z.keys = k0 :: r) (s : ByteArray) :
    NA (u.setCell ⟨pb, 0, none⟩ (.string s)) (.slice (some ⟨g0, 0, none⟩) n c) V (ms ++ ⟨z.ps, s :: r, z.kids⟩ :: l) := by
  have hlt : ms.length < (ms ++ z :: l).length := by simp
  obtain ⟨h1, h2⟩ := h.own _ hlt
  rw [nAt_append_at] at h1
  have hb : (vAt V ms.length).2.1.ownBlock = some pb := by rw [e]; rfl
  have ho : Only (fun y => y = pb) u (u.setCell ⟨pb, 0, none⟩ (.string s)) := only_set (R := fun y => y = pb) rfl _
  refine h.poke (ho.mono (fun y _ hy => .inr (.inl (by rw [hb, hy])))) ⟨own_kept h1.1 ho (fun k hk hy => ((h2 k).1 hk).1 (hy ▸ hb)), ?_, own_kept h1.2.2 ho (fun k hk hy => (h2 pb).2 hb (hy ▸ hk))⟩
  have := h1.2.1
  rw [e, hz] at this
  rw [e]
  exact row_set this 0 (.string s)
theorem NA.pokeI {u : World} {g0 n c : Nat} {V : List V3} {ms l : List NB} {z : NB} (h : NA u (.slice (some ⟨g0, 0, none⟩) n c) V (ms ++ z :: l)) {pb np cp : Nat} (e : (vAt V ms.length).2.2 = .slice (some ⟨pb, 0, none⟩) np cp) {k0 : Int} {r : List Int} (hz : z.kids = k0 :: r) (s : Int) :
    NA (u.setCell ⟨pb, 0, none⟩ (.int .i64 s)) (.slice (some ⟨g0, 0, none⟩) n c) V (ms ++ ⟨z.ps, z.keys, s :: r⟩ :: l) := by
  have hlt : ms.length < (ms ++ z :: l).length := by simp
  obtain ⟨h1, h2⟩ := h.own _ hlt
  rw [nAt_append_at] at h1
  have hb : (vAt V ms.length).2.2.ownBlock = some pb := by rw [e]; rfl
  have ho : Only (fun y => y = pb) u (u.setCell ⟨pb, 0, none⟩ (.int .i64 s)) := only_set (R := fun y => y = pb) rfl _
  refine h.poke (ho.mono (fun y _ hy => .inr (.inr (by rw [hb, hy])))) ⟨own_kept h1.1 ho (fun k hk hy => ((h2 k).1 hk).2 (hy ▸ hb)), own_kept h1.2.1 ho (fun k hk hy => (h2 k).2 hk (hy ▸ hb)), ?_⟩
  have := h1.2.2
  rw [e, hz] at this
  rw [e]
  exact row_set this 0 (.int .i64 s)
/-- One node has other slices. -/
theorem NA.nrSet {u v : World} {S R : Nat → Prop} {vv : Value} {V : List V3} {ms l : List NB} {z z' : NB} {p' : V3} (h : NA u vv V (ms ++ z :: l)) (hS : ∀ j, j < (ms ++ z :: l).length → ∀ y, bl (vAt V j) y → S y) (ho : Only R u v) (hR : ∀ y, R y → bl (vAt V ms.length) y ∨ vv.ownBlock = some y) (hrow : Rw v S vv (ms ++ z :: l).length (ncs (V.set ms.length p'))) (hp : N1 v S p' z') : Nr v S vv (ms ++ z' :: l) := by
  have hl2 : (ms ++ z' :: l).length = (ms ++ z :: l).length := by simp
  refine ⟨V.set ms.length p', by rw [List.length_set, h.len, hl2], by rw [hl2]; exact hrow, fun i hi => ?_⟩
  rw [hl2] at hi
  by_cases e : i = ms.length
  · subst e
    rw [vAt_set _ _ _ (by rw [h.len]; simp), nAt_append_at]
    exact hp
  · rw [vAt_other _ _ _ _ e, nAt_other ms z z' l e]
    refine OwN.n1 ((h.own i hi).1.to ho (fun y hy hr => ?_)) (hS i hi)
    rcases hR y hr with h1 | h1
    · exact h.apart i ms.length hi (by simp) e y hy h1
    · exact h.off i hi y hy h1
/-- t.Nodes[i].Pairs = t.Nodes[i].Pairs[1:] -/
theorem NA.cutP {u : World} {S : Nat → Prop} {g0 n c : Nat} {V : List V3} {ms l : List NB} {z : NB} (h : NA u (.slice (some ⟨g0, 0, none⟩) n c) V (ms ++ z :: l)) (hS : ∀ j, j < (ms ++ z :: l).length → ∀ y, bl (vAt V j) y → S y) (hg : S g0) {pb np cp : Nat} (e : (vAt V ms.length).1 = .slice (some ⟨pb, 0, none⟩) np cp) (hp : 0 < np) (o : Nat) (ho : o = 2 ∨ np = 1) :
    Nr (u.setCell ⟨g0, ms.length * 3, none⟩ (.slice (some ⟨pb, o, none⟩) (np - 1) (cp - 1))) S (.slice (some ⟨g0, 0, none⟩) n c) (ms ++ ⟨z.ps.drop 1, z.keys, z.kids⟩ :: l) := by
  have hlt : ms.length < (ms ++ z :: l).length := by simp
  obtain ⟨h1, h2⟩ := h.own _ hlt
  rw [nAt_append_at] at h1
  have hon : Only (fun y => y = g0) u (u.setCell ⟨g0, ms.length * 3, none⟩ (.slice (some ⟨pb, o, none⟩) (np - 1) (cp - 1))) := only_set (R := fun y => y = g0) rfl _
  have hoff : ∀ y, bl (vAt V ms.length) y → y ≠ g0 := fun y hy e => h.off _ hlt y hy (by rw [e]; rfl)
  have h1' := h1.to hon (fun y hy => hoff y hy)
  have hn1 := h1'.n1 (hS _ hlt)
  have hlv : V.length = (ms ++ z :: l).length := h.len
  refine h.nrSet (p' := (.slice (some ⟨pb, o, none⟩) (np - 1) (cp - 1), (vAt V ms.length).2)) hS hon (fun y hy => .inr (by rw [hy]; rfl)) ?_ ⟨?_, hn1.2.1, hn1.2.2⟩
  · have := row_set h.row (ms.length * 3) (.slice (some ⟨pb, o, none⟩) (np - 1) (cp - 1))
    rw [← ncs_set0 V _ ms.length (by omega)] at this
    exact rw_own this (fun k e _ _ => by cases e; exact hg)
  · have hr : Rw _ S (.slice (some ⟨pb, 0, none⟩) np cp) z.ps.length (pcs z.ps) := e ▸ hn1.1
    have hnp : np = z.ps.length := (Rw.len hr).1
    rw [← hnp] at hr
    have hps : pcs (z.ps.drop 1) = (pcs z.ps).drop (1 * 2) := by
      cases z.ps with
      | nil => rfl
      | cons p r => rfl
    show Rw _ _ _ (z.ps.drop 1).length (pcs (z.ps.drop 1))
    rw [List.length_drop, ← hnp, hps]
    rcases ho with rfl | h0
    · have := hr.drop (m := 1) (by omega) 2 (fun h => by rw [← hps]; exact congrArg pcs (List.eq_nil_of_length_eq_zero (by rw [List.length_drop]; omega)))
      simpa using this
    · refine ⟨_, _, rfl, by omega, by have := (Rw.len hr).2; omega, fun _ => ?_, fun e => by (cases e), fun h => by omega⟩
      rw [← hps]; exact congrArg pcs (List.eq_nil_of_length_eq_zero (by rw [List.length_drop]; omega))
/-- append(t.Nodes, t.Nodes[i]) -/
theorem NA.nrPush {u w2 : World} {S : Nat → Prop} {vv v' : Value} {V : List V3} {ns : List NB} (h : NA u vv V ns) (hS : ∀ j, j < ns.length → ∀ y, bl (vAt V j) y → S y) {i : Nat} (hi : i < ns.length) (hrow : w2.ownsRow 0 106 3 v' (ns.length + 1) (ncs V ++ [(vAt V i).1, (vAt V i).2.1, (vAt V i).2.2])) (hg : u.grownBy w2 vv.ownBlock) (hb : ∀ y, v'.ownBlock = some y → S y) : Nr w2 S v' (ns ++ [nAt ns i]) := by
  have o : Only (fun y => vv.ownBlock = some y) u w2 := only_of_grown hg (fun k e => e)
  have hl := h.len
  refine ⟨V ++ [vAt V i], by simp [hl], ?_, fun j hj => ?_⟩
  · rw [ncs_append, List.length_append]
    exact rw_own hrow (fun k e _ _ => hb k e)
  · simp at hj
    by_cases e : j < ns.length
    · rw [vAt_append_left (by omega), nAt_append_left e]
      exact OwN.n1 ((h.own j e).1.to o (h.off j e)) (hS j e)
    · obtain rfl : j = ns.length := by omega
      rw [nAt_append_at, ← hl, vAt_append_at]
      exact OwN.n1 ((h.own i hi).1.to o (h.off i hi)) (hS i hi)
end Go.Proofs.Ytkflneeifllpgaa
/-
  l01Raw: the cursor stays one.
-/
namespace Go.Proofs.Ytkflneeifllpgaa
open Go.RowKit
set_option maxHeartbeats 1600000 in
theorem raw_cu (g : Nat) (w : World) (h : Cu w g) :
    Calls Try.prog 68 #[.pointer (some ⟨g, 0, none⟩)] w fun e w' => (∃ x : Int, e = .returned (.int .i64 x) ∧ -9223372036854775808 ≤ x ∧ x ≤ 9223372036854775807) ∧ w.grownBy w' (some g) ∧ Cu w' g := by
  have HC := hid h
  clear h
  go_enter Try.func68, Try.ntmps68
  go_wp2_with fail
  refine (below_any g 10 w HC.out (by omega) (by omega)).mono ?_
  rintro e w1 ⟨⟨k, rfl, hk0, hk1⟩, hg1, hc1⟩
  have HG1 := hid hg1
  have HC1 := hid hc1
  clear hg1 hc1
  rcases (by omega : k < 4 ∨ k = 4 ∨ k = 5 ∨ k = 6 ∨ k = 7 ∨ k = 8 ∨ k = 9) with h | rfl | rfl | rfl | rfl | rfl | rfl
  · go_wp2_with fail
    refine (below_any g 20 w1 HC1.out (by omega) (by omega)).mono ?_
    rintro e w2 ⟨⟨x, rfl, hx0, hx1⟩, hg1, hc1⟩
    have HG2 := hid (grownBy_trans HG1.out hg1)
    have HC2 := hid hc1
    clear hg1 hc1
    go_wp2
    go_ret
    exact ⟨⟨_, rfl, by omega, by omega⟩, HG2.out, HC2.out⟩
  · go_wp2_with fail
    refine (below_any g 3 w1 HC1.out (by omega) (by omega)).mono ?_
    rintro e w2 ⟨⟨x, rfl, hx0, hx1⟩, hg1, hc1⟩
    have HG2 := hid (grownBy_trans HG1.out hg1)
    have HC2 := hid hc1
    clear hg1 hc1
    go_wp2
    go_ret
    exact ⟨⟨_, rfl, by omega, by omega⟩, HG2.out, HC2.out⟩
  · go_wp2_with fail
    refine (below_any g 2 w1 HC1.out (by omega) (by omega)).mono ?_
    rintro e w2 ⟨⟨x, rfl, hx0, hx1⟩, hg1, hc1⟩
    have HG2 := hid (grownBy_trans HG1.out hg1)
    have HC2 := hid hc1
    clear hg1 hc1
    go_wp2
    go_ret
    exact ⟨⟨_, rfl, by omega, by omega⟩, HG2.out, HC2.out⟩
  · go_wp2_with fail
    refine (below_any g 2 w1 HC1.out (by omega) (by omega)).mono ?_
    rintro e w2 ⟨⟨x, rfl, hx0, hx1⟩, hg1, hc1⟩
    have HG2 := hid (grownBy_trans HG1.out hg1)
    have HC2 := hid hc1
    clear hg1 hc1
    go_wp2
    go_ret
    exact ⟨⟨_, rfl, by omega, by omega⟩, HG2.out, HC2.out⟩
  · go_wp2_with fail
    refine (below_any g 2 w1 HC1.out (by omega) (by omega)).mono ?_
    rintro e w2 ⟨⟨x, rfl, hx0, hx1⟩, hg1, hc1⟩
    have HG2 := hid (grownBy_trans HG1.out hg1)
    have HC2 := hid hc1
    clear hg1 hc1
    go_wp2
    go_ret
    exact ⟨⟨_, rfl, by omega, by omega⟩, HG2.out, HC2.out⟩
  · go_wp2_with fail
    have hgl : w1.grownBy (w1.alloc (.cells #[.int .i64 127, .int .i64 128, .int .i64 16383, .int .i64 16384, .int .i64 255, .int .i64 256, .int .i64 4096, .int .i64 4097] 3)) (some g) := grownBy_alloc w1 _ _
    have HGL := hid hgl
    clear hgl
    refine (below_any g 8 _ (HC1.out.alloc _) (by omega) (by omega)).mono ?_
    rintro e w2 ⟨⟨x, rfl, hx0, hx1⟩, hg1, hc1⟩
    have HG2 := hid (grownBy_trans (grownBy_trans HG1.out HGL.out) hg1)
    have hcl := fun k => row_kept (b := w1.heap.size) (k := k) hg1 (by simp) (by have := HC1.out.lt; omega)
    have HC2 := hid hc1
    clear hg1 hc1
    rcases (by omega : x = 0 ∨ x = 1 ∨ x = 2 ∨ x = 3 ∨ x = 4 ∨ x = 5 ∨ x = 6 ∨ x = 7) with rfl | rfl | rfl | rfl | rfl | rfl | rfl | rfl
    · have hc := (hcl 0).trans (by rw [World.cell?_alloc_at (hn := rfl)])
      clear hcl
      go_wp2
      go_ret
      exact ⟨⟨_, rfl, by omega, by omega⟩, HG2.out, HC2.out⟩
    · have hc := (hcl 1).trans (by rw [World.cell?_alloc_at (hn := rfl)])
      clear hcl
      go_wp2
      go_ret
      exact ⟨⟨_, rfl, by omega, by omega⟩, HG2.out, HC2.out⟩
    · have hc := (hcl 2).trans (by rw [World.cell?_alloc_at (hn := rfl)])
      clear hcl
      go_wp2
      go_ret
      exact ⟨⟨_, rfl, by omega, by omega⟩, HG2.out, HC2.out⟩
    · have hc := (hcl 3).trans (by rw [World.cell?_alloc_at (hn := rfl)])
      clear hcl
      go_wp2
      go_ret
      exact ⟨⟨_, rfl, by omega, by omega⟩, HG2.out, HC2.out⟩
    · have hc := (hcl 4).trans (by rw [World.cell?_alloc_at (hn := rfl)])
      clear hcl
      go_wp2
      go_ret
      exact ⟨⟨_, rfl, by omega, by omega⟩, HG2.out, HC2.out⟩
    · have hc := (hcl 5).trans (by rw [World.cell?_alloc_at (hn := rfl)])
      clear hcl
      go_wp2
      go_ret
      exact ⟨⟨_, rfl, by omega, by omega⟩, HG2.out, HC2.out⟩
    · have hc := (hcl 6).trans (by rw [World.cell?_alloc_at (hn := rfl)])
      clear hcl
      go_wp2
      go_ret
      exact ⟨⟨_, rfl, by omega, by omega⟩, HG2.out, HC2.out⟩
    · have hc := (hcl 7).trans (by rw [World.cell?_alloc_at (hn := rfl)])
      clear hcl
      go_wp2
      go_ret
      exact ⟨⟨_, rfl, by omega, by omega⟩, HG2.out, HC2.out⟩
  · go_wp2_with fail
    refine (below_any g 65536 w1 HC1.out (by omega) (by omega)).mono ?_
    rintro e w2 ⟨⟨x, rfl, hx0, hx1⟩, hg1, hc1⟩
    have HG2 := hid (grownBy_trans HG1.out hg1)
    have HC2 := hid hc1
    clear hg1 hc1
    go_wp2
    go_ret
    exact ⟨⟨_, rfl, by omega, by omega⟩, HG2.out, HC2.out⟩
end Go.Proofs.Ytkflneeifllpgaa
/-
  l03Any.
-/
namespace Go.Proofs.Ytkflneeifllpgaa
open Go.RowKit
/-- What stands behind a turned tree: some nodes. -/
def Tf (w v : World) (g tb : Nat) (a : Option Addr) (n c : Nat) : Prop := Fr w v g tb a n c ∧ ∃ ns, Nr v (fun y => w.heap.size < y ∧ y ≠ tb) (.slice a n c) ns ∧ smallN ns ∧ ns.length ≤ 1048576
theorem Ta.tf {w v : World} {g tb : Nat} {a : Option Addr} {n c : Nat} {V : List V3} {ns : List NB} (h : Ta w v g tb a n c V ns) : Tf w v g tb a n c := ⟨h.fr, ns, h.na.nrS h.lo.1 h.lo.2, (small_smallN h.sm)⟩
theorem Tf.fin {w v : World} {g tb : Nat} {a : Option Addr} {n c : Nat} (h : Tf w v g tb a n c) : AnyPost w g (.returned (.agg #[.slice a n c])) (v.setCell ⟨w.heap.size, 0, none⟩ (.slice a n c)) := by
  obtain ⟨h1, ns, h2, h3⟩ := h
  exact h1.fin h2 h3
theorem grown_set (v : World) (b o : Nat) (x : Value) : v.grownBy (v.setCell ⟨b, o, none⟩ x) (some b) := grownBy_set (grownBy_same v (some b)) o x
/-- The node at ms.length, its cells and what its slices lead to. -/
structure Nc (v : World) (nb i : Nat) (ap : Option Addr) (np cp : Nat) (ax : Option Addr) (nx cx : Nat) (ai : Option Addr) (ni ci : Nat) : Prop where
  c0 : v.cell? ⟨nb, i * 3, none⟩ = some (.slice ap np cp)
  c1 : v.cell? ⟨nb, i * 3 + 1, none⟩ = some (.slice ax nx cx)
  c2 : v.cell? ⟨nb, i * 3 + 2, none⟩ = some (.slice ai ni ci)
  fr : ∀ o, v.frozen? ⟨nb, o, none⟩ = false
theorem Ta.nc {w v : World} {g tb nb : Nat} {n c : Nat} {V : List V3} {ns : List NB} {i : Nat} {ap ax ai : Option Addr} {np cp nx cx ni ci : Nat} (h : Ta w v g tb (some ⟨nb, 0, none⟩) n c V ns) (hi : i < ns.length) (e : vAt V i = (.slice ap np cp, .slice ax nx cx, .slice ai ni ci)) : Nc v nb i ap np cp ax nx cx ai ni ci := by
  obtain ⟨h1, h2, h3, h4⟩ := h.na.cells i hi
  rw [e] at h1 h2 h3
  exact ⟨h1, h2, h3, h4⟩
theorem Ta.sl {w v : World} {g tb : Nat} {a : Option Addr} {n c : Nat} {V : List V3} {ns : List NB} {i : Nat} (h : Ta w v g tb a n c V ns) (hi : i < ns.length) : ∃ nb ap cp ax cx ai ci, a = some ⟨nb, 0, none⟩ ∧ vAt V i = (.slice ap (nAt ns i).ps.length cp, .slice ax (nAt ns i).keys.length cx, .slice ai (nAt ns i).kids.length ci) := by
  obtain ⟨nb, e, _⟩ := h.na.rowAt (by omega)
  obtain ⟨h1, _⟩ := h.na.own i hi
  obtain ⟨ap, cp, e1⟩ := own_shape h1.1
  obtain ⟨ax, cx, e2⟩ := own_shape h1.2.1
  obtain ⟨ai, ci, e3⟩ := own_shape h1.2.2
  exact ⟨nb, ap, cp, ax, cx, ai, ci, e, by rw [← e1, ← e2, ← e3]⟩
theorem own_first {w : World} {E : TypeId} {s : Nat} {a : Option Addr} {n c m : Nat} {xs : List Value} {x : Value} (h : w.ownsRow 0 E s (.slice a n c) m xs) (hx : xs[0]? = some x) (hm : 0 < m) : ∃ b, a = some ⟨b, 0, none⟩ ∧ w.cell? ⟨b, 0, none⟩ = some x ∧ ∀ o, w.frozen? ⟨b, o, none⟩ = false := by
  have hc := fun g hg => World.ownsRow.cells h (g := g) hg
  rcases h.2 with ⟨e, e2⟩ | ⟨g', cap, cur, e, _, k4, _⟩
  · omega
  · cases e
    refine ⟨g', rfl, ?_, fun o => by simp [World.frozen?, k4]⟩
    have := hc g' rfl 0 x hx
    rwa [Addr.add_lit] at this
theorem first_map {α : Type} (l : List α) (f : α → Value) {d : α} (h : 0 < l.length) : (l.map f)[0]? = some (f (l[0]?.getD d)) := by
  cases l with
  | nil => simp at h
  | cons x l => simp
theorem Tf.box {w v : World} {g tb : Nat} {a : Option Addr} {n c : Nat} (h : Tf w v g tb a n c) : v.cell? ⟨tb, 0, none⟩ = some (.slice a n c) := h.1.bk.cell (j := 0) rfl
theorem Tf.res {w v : World} {g tb : Nat} {a : Option Addr} {n c : Nat} (h : Tf w v g tb a n c) : v.cell? ⟨w.heap.size, 0, none⟩ = some (.slice none 0 0) := h.1.rb.cell (j := 0) rfl
theorem Tf.free {w v : World} {g tb : Nat} {a : Option Addr} {n c : Nat} (h : Tf w v g tb a n c) : v.frozen? ⟨w.heap.size, 0, none⟩ = false := h.1.rb.free 0
theorem Tf.got {w v : World} {g tb : Nat} {a : Option Addr} {n c : Nat} (h : Tf w v g tb a n c) : (v.setCell ⟨w.heap.size, 0, none⟩ (.slice a n c)).cell? ⟨w.heap.size, 0, none⟩ = some (.slice a n c) := (h.1.rb.set 0 (.slice a n c)).cell (j := 0) rfl
/-- k = 1, 2, 4: a row of the node is written. -/
theorem Ta.wP {w v : World} {g tb nb n c : Nat} {V : List V3} {ms l : List NB} {z : NB} {pb np cp : Nat} {p2 : Value × Value} (h : Ta w v g tb (some ⟨nb, 0, none⟩) n c V (ms ++ z :: l)) (e : vAt V ms.length = (.slice (some ⟨pb, 0, none⟩) np cp, p2)) (hz : 0 < z.ps.length) (s : ByteArray) : Tf w (v.setCell ⟨pb, 0, none⟩ (.string s)) g tb (some ⟨nb, 0, none⟩) n c := by
  have hlt : ms.length < (ms ++ z :: l).length := by simp
  have hpb := h.lo.2 _ hlt pb (by rw [e]; exact .inl rfl)
  obtain ⟨⟨k0, v0⟩, r, hr⟩ : ∃ p r, z.ps = p :: r := by
    cases hq : z.ps with
    | nil => rw [hq] at hz; exact absurd hz (Nat.lt_irrefl _)
    | cons p r => exact ⟨p, r, rfl⟩
  refine ⟨h.fr.touch (grown_set v pb 0 (.string s)) (fun k e => by cases e; exact hpb), _, (h.na.pokeP (by rw [e]) hr s).nrS h.lo.1 (fun i hi => h.lo.2 i (by simpa using hi)), small_mid h.sm ⟨by simp [hr], by simp, by simp⟩⟩
theorem Ta.wK {w v : World} {g tb nb n c : Nat} {V : List V3} {ms l : List NB} {z : NB} {pb np cp : Nat} {p1 p2 : Value} (h : Ta w v g tb (some ⟨nb, 0, none⟩) n c V (ms ++ z :: l)) (e : vAt V ms.length = (p1, .slice (some ⟨pb, 0, none⟩) np cp, p2)) (hz : 0 < z.keys.length) (s : ByteArray) : Tf w (v.setCell ⟨pb, 0, none⟩ (.string s)) g tb (some ⟨nb, 0, none⟩) n c := by
  have hlt : ms.length < (ms ++ z :: l).length := by simp
  have hpb := h.lo.2 _ hlt pb (by rw [e]; exact .inr (.inl rfl))
  obtain ⟨k0, r, hr⟩ : ∃ p r, z.keys = p :: r := by
    cases hq : z.keys with
    | nil => rw [hq] at hz; exact absurd hz (Nat.lt_irrefl _)
    | cons p r => exact ⟨p, r, rfl⟩
  refine ⟨h.fr.touch (grown_set v pb 0 (.string s)) (fun k e => by cases e; exact hpb), _, (h.na.pokeK (by rw [e]) hr s).nrS h.lo.1 (fun i hi => h.lo.2 i (by simpa using hi)), small_mid h.sm ⟨by simp, by simp [hr], by simp⟩⟩
theorem Ta.wI {w v : World} {g tb nb n c : Nat} {V : List V3} {ms l : List NB} {z : NB} {pb np cp : Nat} {p1 p2 : Value} (h : Ta w v g tb (some ⟨nb, 0, none⟩) n c V (ms ++ z :: l)) (e : vAt V ms.length = (p1, p2, .slice (some ⟨pb, 0, none⟩) np cp)) (hz : 0 < z.kids.length) (s : Int) : Tf w (v.setCell ⟨pb, 0, none⟩ (.int .i64 s)) g tb (some ⟨nb, 0, none⟩) n c := by
  have hlt : ms.length < (ms ++ z :: l).length := by simp
  have hpb := h.lo.2 _ hlt pb (by rw [e]; exact .inr (.inr rfl))
  obtain ⟨k0, r, hr⟩ : ∃ p r, z.kids = p :: r := by
    cases hq : z.kids with
    | nil => rw [hq] at hz; exact absurd hz (Nat.lt_irrefl _)
    | cons p r => exact ⟨p, r, rfl⟩
  refine ⟨h.fr.touch (grown_set v pb 0 (.int .i64 s)) (fun k e => by cases e; exact hpb), _, (h.na.pokeI (by rw [e]) hr s).nrS h.lo.1 (fun i hi => h.lo.2 i (by simpa using hi)), small_mid h.sm ⟨by simp, by simp, by simp [hr]⟩⟩
/-- k = 5: the first pair is cut off. -/
theorem Ta.wC {w v : World} {g tb nb n c : Nat} {V : List V3} {ms l : List NB} {z : NB} {pb np cp : Nat} {p2 : Value × Value} (h : Ta w v g tb (some ⟨nb, 0, none⟩) n c V (ms ++ z :: l)) (e : vAt V ms.length = (.slice (some ⟨pb, 0, none⟩) np cp, p2)) (hp : 0 < np) (o : Nat) (ho : o = 2 ∨ np = 1) : Tf w (v.setCell ⟨nb, ms.length * 3, none⟩ (.slice (some ⟨pb, o, none⟩) (np - 1) (cp - 1))) g tb (some ⟨nb, 0, none⟩) n c := by
  have hnb := h.lo.1 nb rfl
  exact ⟨h.fr.touch (grown_set v nb _ _) (fun k e => by cases e; exact hnb), _, h.na.cutP h.lo.2 hnb (by rw [e]) hp o ho, small_mid h.sm ⟨by simp; omega, by simp, by simp⟩⟩
/-- k = 0: a key is added. -/
theorem Ta.wA {w u w2 : World} {g tb nb n c : Nat} {V : List V3} {ms l : List NB} {z : NB} {ax : Option Addr} {nx cx : Nat} {p1 p2 : Value} {s : ByteArray} {a5 : Option Addr} {n5 c5 : Nat} (h : Ta w u g tb (some ⟨nb, 0, none⟩) n c V (ms ++ z :: l)) (e : vAt V ms.length = (p1, .slice ax nx cx, p2)) (hO : w2.ownsRow 0 9 1 (.slice a5 n5 c5) (z.keys.length + 1) (z.keys.map Value.string ++ [.string s])) (hg : u.grownBy w2 (Value.slice ax nx cx).ownBlock)
    (ha : (Value.slice a5 n5 c5).ownBlock = (Value.slice ax nx cx).ownBlock ∨ (Value.slice a5 n5 c5).ownBlock = some u.heap.size) : Tf w (w2.setCell ⟨nb, ms.length * 3 + 1, none⟩ (.slice a5 n5 c5)) g tb (some ⟨nb, 0, none⟩) n c := by
  have hlt : ms.length < (ms ++ z :: l).length := by simp
  have hnb := h.lo.1 nb rfl
  have hsz := h.fr.gr.size
  have htb := h.fr.bk.lt
  have hwt := h.fr.nb
  have hlo := h.lo.2 _ hlt
  have hfr : Fr w w2 g tb (some ⟨nb, 0, none⟩) n c := h.fr.touch hg (fun k e2 => hlo k (by rw [e]; exact .inr (.inl e2)))
  have e1 : (vAt V ms.length).2.1 = .slice ax nx cx := by rw [e]
  have hN := h.na.addKey (s := s) (kx' := .slice a5 n5 c5) hO (by rw [e1]; exact hg) (by rw [e1]; exact ha.imp id (fun e => ⟨_, e, Nat.le_refl _⟩))
  refine ⟨hfr.touch (grown_set w2 nb _ _) (fun k e => by cases e; exact hnb), _, hN.nrS h.lo.1 (fun i hi y hy => ?_), small_mid h.sm ⟨by simp, by simp, by simp⟩⟩
  have hi' : i < (ms ++ z :: l).length := by simpa using hi
  have hl := h.na.len
  by_cases ei : i = ms.length
  · subst ei
    rw [vAt_set _ _ _ (by omega)] at hy
    rcases hy with hy | hy | hy
    · exact hlo y (.inl hy)
    · rcases ha with e3 | e3
      · exact hlo y (by rw [e]; exact .inr (.inl (e3 ▸ hy)))
      · simp only [e3] at hy
        cases hy
        exact ⟨by omega, by omega⟩
    · exact hlo y (.inr (.inr hy))
  · rw [vAt_other _ _ _ _ ei] at hy
    exact h.lo.2 i hi' y hy
/-- k = 3: a node is put behind the others. -/
theorem Ta.wN {w u w2 : World} {g tb : Nat} {a : Option Addr} {n c : Nat} {V : List V3} {ns : List NB} {a5 : Option Addr} {n5 c5 : Nat} {i : Nat} (h : Ta w u g tb a n c V ns) (hi : i < ns.length) (hO : w2.ownsRow 0 106 3 (.slice a5 n5 c5) (ns.length + 1) (ncs V ++ [(vAt V i).1, (vAt V i).2.1, (vAt V i).2.2])) (hg : u.grownBy w2 (Value.slice a n c).ownBlock)
    (ha : (Value.slice a5 n5 c5).ownBlock = (Value.slice a n c).ownBlock ∨ (Value.slice a5 n5 c5).ownBlock = some u.heap.size) : Tf w (w2.setCell ⟨tb, 0, none⟩ (.slice a5 n5 c5)) g tb a5 n5 c5 := by
  have hsz := h.fr.gr.size
  have htb := h.fr.bk.lt
  have hwt := h.fr.nb
  have hfr : Fr w w2 g tb a n c := h.fr.touch hg (fun k e2 => h.lo.1 k e2)
  have hN := h.na.nrPush (S := fun y => w.heap.size < y ∧ y ≠ tb) h.lo.2 hi hO hg (fun y hy => by
    rcases ha with e | e
    · exact h.lo.1 y (e ▸ hy)
    · rw [e] at hy
      cases hy
      exact ⟨by omega, by omega⟩)
  refine ⟨hfr.setBox _ _ _, _, hN.to (only_set (R := fun y => y = tb) rfl _) (fun y hy _ e => hy.2 e), fun j hj => ?_, by have := h.sm.2; simp; omega⟩
  simp at hj
  by_cases e : j < ns.length
  · rw [nAt_append_left e]
    have := h.sm.1 j e
    omega
  · obtain rfl : j = ns.length := by omega
    rw [nAt_append_at]
    have := h.sm.1 i hi
    omega
theorem step_append_node1 {w : World} {ops : Array Oper} {o : Oper} {a : Act} {K : Act → World → Prop} {Q : Exit → Act → World → Prop} {E : Prop} (hgd : o.guard = none) (s x : Operand)
    (ho : o.op = .call { callee := .builtin .append, args := #[s, x], argTypes := #[23, 23] }) (v : Value) (n : Nat) (xs : List Value) (hs : a.eval s = v) (hown : w.ownsRow 0 106 3 v n xs)
    (g : Nat) (p : V3) (h1 : p.1.oneCell' = true ∧ p.2.1.oneCell' = true ∧ p.2.2.oneCell' = true) (hx : a.eval x = .slice (some ⟨g, 0, none⟩) 1 1) (hB : Bk w g 106 [p.1, p.2.1, p.2.2]) (hb : n ≤ 1048576) (b0 o0 : Nat) (x0 : Value) (hc0 : w.cell? ⟨b0, o0, none⟩ = some x0) (hf0 : w.frozen? ⟨b0, o0, none⟩ = false) (hne : v.ownBlock ≠ some b0)
    (h : ∀ a' n' c' w', w'.ownsRow 0 106 3 (.slice a' n' c') (n + 1) (xs ++ [p.1, p.2.1, p.2.2]) → w.grownBy w' v.ownBlock → ((Value.slice a' n' c').ownBlock = v.ownBlock ∨ (Value.slice a' n' c').ownBlock = some w.heap.size) → w'.cell? ⟨b0, o0, none⟩ = some x0 → w'.frozen? ⟨b0, o0, none⟩ = false → K (a.put o.dst (.slice a' n' c')) w') :
    if Region.wanted o (yielded ops a.tmps) = true then Oper.wp Try.prog o a w K Q else E := by
  have hw : Region.wanted o (yielded ops a.tmps) = true := by simp [Region.wanted, hgd]
  rw [if_pos hw]
  obtain ⟨i, hi, hz, hsz, hby⟩ := info_of infoNodeI
  obtain ⟨v', w', hr, h2, h3, h5⟩ := run_append_row_at (P := Try.prog) (w := w) 0 23 o.type 106 i _ 3 72 Try.underlying23 hi hz hsz hby rfl (by decide) v n xs hown (fun _ => True) _ 1 [p.1, p.2.1, p.2.2] (hB.rw (Nat.le_refl _) (by omega) (fun h => by omega) _ trivial) rfl (by intro u hu; simp at hu; rcases hu with rfl | rfl | rfl <;> first | exact h1.1 | exact h1.2.1 | exact h1.2.2) (by unfold maxLen; omega) (by omega) (Nat.zero_le _)
  obtain ⟨a', c', rfl⟩ := own_shape h2
  have hbl := h3.block b0 (block_lt hc0) (fun e => hne e.symm)
  unfold Oper.wp execOp
  simp only [ho, resolve, invoke, builtin, Sem.run_bind, Sem.run_pure, Result.andThen_ok, List.map_toArray, List.map_cons, List.map_nil, hs, hx, hr]
  exact h a' _ c' w' h2 h3 h5 ((World.cell?_of_block (w := w) (a := ⟨b0, o0, none⟩) hbl).trans hc0) ((World.frozen?_of_block (w := w) (a := ⟨b0, o0, none⟩) hbl).trans hf0)
end Go.Proofs.Ytkflneeifllpgaa
/-
  l03Any.
-/
namespace Go.Proofs.Ytkflneeifllpgaa
open Go.RowKit
set_option maxHeartbeats 8000000 in
set_option maxRecDepth 20000 in
theorem anyT_any (g : Nat) (w : World) (h : Cu w g) : Calls Try.prog 27 #[.pointer (some ⟨g, 0, none⟩)] w fun e w' => AnyPost w g e w' := by
  have hng := h.lt
  have R0 := hid (Bk.new w 25 [.slice none 0 0])
  have C0 := hid (h.alloc (.cells #[.slice none 0 0] 25))
  have G0 := hid (grownBy_alloc w (.cells #[.slice none 0 0] 25) (some g))
  have Z0 : Hid ((w.alloc (.cells #[.slice none 0 0] 25)).heap.size = w.heap.size + 1) := by show _ = _; simp
  clear h
  go_enter Try.func27, Try.ntmps27
  go_wp2_with fail
  refine (drawT_any g 40 _ C0.out (by omega)).mono ?_
  generalize w.alloc (.cells #[.slice none 0 0] 25) = U at *
  rintro e w1 ⟨a, n, c, ns, rfl, hg1, hc1, hN1, hs1, hl1⟩
  obtain ⟨V, hna, hr1, hr2⟩ := hN1.na
  have hz1 := hg1.size
  have T1 : Hid (Ta w (w1.alloc (.cells #[.slice a n c] 25)) g w1.heap.size a n c V ns) := by
    have hz := Z0.out
    refine ⟨⟨grownBy_trans (grownBy_trans G0.out hg1) (grownBy_alloc _ _ _), hc1.alloc _, Bk.new w1 25 [.slice a n c], ?_, hng, by omega⟩, hna.kept (below_new (Below.refl _ _)), ⟨fun y hy => ?_, fun i hi y hy => ?_⟩, hs1, hl1⟩
    · exact (tr_grown R0.out hg1 hng).alloc _
    · have := hr1 y hy; exact ⟨by omega, by omega⟩
    · have := hr2 i hi y hy; exact ⟨by omega, by omega⟩
  have hnl : Hid (n = ns.length) := by obtain ⟨_, _, _, e, h⟩ := hna.shape; cases e; exact h.out
  have hn5 : n ≤ 100000 := by rw [hnl.out]; exact hl1
  clear hg1 hc1 hN1 hs1 hl1 hna hr1 hr2 hz1 R0 C0 G0 Z0
  go_wp2_with fail
  refine (below_any g 16 _ T1.out.fr.cu (by omega) (by omega)).mono ?_
  generalize w1.alloc (.cells #[.slice a n c] 25) = U1 at *
  generalize w1.heap.size = tb at *
  rintro e w2 ⟨⟨x, rfl, hx0, hx1⟩, hg2, hc2⟩
  have T2 := hid (T1.out.draw hg2 hc2)
  clear hg2 hc2 T1
  have t0 := T2.out.fr.bk.cell (j := 0) rfl
  by_cases hn : n = 0
  · subst hn
    have F2 := hid T2.out.tf
    have r0 := F2.out.res
    have rf := F2.out.free
    have d1 := F2.out.got
    have HFIN := hid F2.out.fin
    clear T2 F2
    go_wp2
    refine bodyPost_ret (v := .agg #[.slice a 0 c]) ?_ rfl ?_
    · refine results_tree1 rfl _ _ _ rfl ?_
      exact d1
    · exact HFIN.out
  · have hn' : ¬ (n : Int) = 0 := by omega
    go_wp2_with fail
    refine (below_any g (n : Int) _ T2.out.fr.cu (by omega) (by omega)).mono ?_
    rintro e w3 ⟨⟨i, rfl, hi0, hi1⟩, hg3, hc3⟩
    have T3 := hid (T2.out.draw hg3 hc3)
    clear hg3 hc3 T2 t0 hn'
    obtain ⟨i, rfl⟩ := Int.eq_ofNat_of_zero_le hi0
    have hin : i < ns.length := by rw [← hnl.out]; omega
    obtain ⟨ms, z, l, rfl, rfl⟩ := split_at hin
    obtain ⟨nb, ap, cp, ax, cx, ai, ci, rfl, hV⟩ := T3.out.sl hin
    rw [nAt_append_at] at hV
    have HZ : Hid (z.ps.length ≤ 1000 ∧ z.keys.length ≤ 1000 ∧ z.kids.length ≤ 1000) := by
      have := T3.out.sm.1 ms.length hin
      rwa [nAt_append_at] at this
    have HV := hid hV
    have t0 := T3.out.fr.bk.cell (j := 0) rfl
    have NC := T3.out.nc hin hV
    have m0 := NC.c0
    have m1 := NC.c1
    have m2 := NC.c2
    have mf := hid NC.fr
    have HOW : Hid (OwN w3 (vAt V ms.length) z) := by
      have := (T3.out.na.own ms.length hin).1
      rwa [nAt_append_at] at this
    clear NC hV hin
    generalize hq : ms.length = q at *
    have HQ := hid hq
    clear hq
    generalize hnp : z.ps.length = np at *
    generalize hnx : z.keys.length = nx at *
    generalize hni : z.kids.length = ni at *
    have HNP := hid hnp
    have HNX := hid hnx
    have HNI := hid hni
    clear hnp hnx hni
    /- CASES -/
    have F3 := hid T3.out.tf
    by_cases x0 : x = 0
    · subst x0
      clear F3
      have HLO : Hid (∀ v, Ta w v g tb (some ⟨nb, 0, none⟩) n c V (ms ++ z :: l) → v.cell? ⟨nb, q * 3 + 1, none⟩ = some (.slice ax nx cx) ∧ v.frozen? ⟨nb, q * 3 + 1, none⟩ = false ∧ v.ownsRow 0 9 1 (.slice ax nx cx) nx (z.keys.map Value.string)) := by
        obtain rfl := HQ.out
        obtain rfl := HNX.out
        intro v hv
        have hlt : ms.length < (ms ++ z :: l).length := by simp
        have h1 := hv.nc hlt HV.out
        have h2 := (hv.na.own _ hlt).1
        rw [nAt_append_at, HV.out] at h2
        exact ⟨h1.c1, h1.fr _, h2.2.1⟩
      have TU : Hid (Ta w (w3.alloc (.cells #[.string ⟨#[113]⟩] 9)).drew g tb (some ⟨nb, 0, none⟩) n c V (ms ++ z :: l)) := (T3.out.below (below_alloc _ _)).below (below_drew _)
      have HM := hid (HLO.out _ TU.out)
      have hm0 := (T3.out.below (below_alloc w3 (.cells #[.string ⟨#[113]⟩] 9))).fr.bk.cell (j := 0) rfl
      have HTB : Hid (∀ w5, (w3.alloc (.cells #[.string ⟨#[113]⟩] 9)).drew.grownBy w5 (Value.slice ax nx cx).ownBlock → w5.cell? ⟨tb, 0, none⟩ = some (.slice (some ⟨nb, 0, none⟩) n c)) := by
        obtain rfl := HQ.out
        intro w5 hg
        exact (TU.out.fr.bk.to (only_of_grown hg (R := fun y => (Value.slice ax nx cx).ownBlock = some y) (fun k e => e)) (fun e => (TU.out.lo.2 ms.length (by simp) tb (by rw [HV.out]; exact .inr (.inl e))).2 rfl)).cell (j := 0) rfl
      have hm1 := (HLO.out _ (T3.out.below (below_alloc w3 (.cells #[.string ⟨#[113]⟩] 9)))).1
      have HZC : Hid ((w3.alloc (.cells #[.string ⟨#[113]⟩] 9)).drew.cell? ⟨w3.heap.size, 0, none⟩ = some (.string ⟨#[113]⟩)) := (Bk.new w3 9 [.string ⟨#[113]⟩]).cell (j := 0) rfl
      have hkk : nx ≤ 1048576 := by have := HZ.out; omega
      have HNB : Hid ((Value.slice ax nx cx).ownBlock ≠ some nb) := by
        obtain rfl := HQ.out
        exact fun e => T3.out.na.off ms.length (by simp) nb (by rw [HV.out]; exact .inr (.inl e)) rfl
      have HFIN : Hid (∀ (a5 : Option Addr) (n5 c5 : Nat) (w5 : World), w5.ownsRow 0 9 1 (.slice a5 n5 c5) (nx + 1) (z.keys.map Value.string ++ [.string ⟨#[113]⟩]) → (w3.alloc (.cells #[.string ⟨#[113]⟩] 9)).drew.grownBy w5 (Value.slice ax nx cx).ownBlock →
          ((Value.slice a5 n5 c5).ownBlock = (Value.slice ax nx cx).ownBlock ∨ (Value.slice a5 n5 c5).ownBlock = some (w3.alloc (.cells #[.string ⟨#[113]⟩] 9)).drew.heap.size) → Tf w (w5.setCell ⟨nb, q * 3 + 1, none⟩ (.slice a5 n5 c5)) g tb (some ⟨nb, 0, none⟩) n c) := by
        obtain rfl := HQ.out
        obtain rfl := HNX.out
        exact fun a5 n5 c5 w5 h1 h2 h3 => TU.out.wA HV.out h1 h2 h3
      clear T3 m0 m2 HOW HV HLO
      go_wp2_with fail
      go_cut [4] (fun x v => x = .int .i64 0 ∧ Hid (Tf w v g tb (some ⟨nb, 0, none⟩) n c))
      case first =>
        go_region_law (first
          | (refine step_append_str1 rfl _ _ rfl _ nx _ rfl HM.out.2.2 w3.heap.size ⟨#[113]⟩ rfl HZC.out hkk nb (q * 3 + 1) _ HM.out.1 HM.out.2.1 HNB.out ?_; intro a5 n5 c5 w5 hO5 hg5 ha5 hc5 hf5; have tb5 := HTB.out _ hg5))
        all_goals (go_wp2_with fail; go_meet)
        all_goals exact ⟨rfl, HFIN.out _ _ _ _ hO5 hg5 ha5⟩
      case rest =>
        obtain ⟨rfl, HT⟩ := hcut
        clear HM HZC HNB HFIN HTB TU m1 hm1 hm0 t0
        have e0 := HT.out.box
        have r0 := HT.out.res
        have rf := HT.out.free
        have d1 := HT.out.got
        have HFIN := hid HT.out.fin
        clear HT
        go_wp2
        refine bodyPost_ret (v := .agg #[.slice (some ⟨nb, 0, none⟩) n c]) ?_ rfl ?_
        · refine results_tree1 rfl _ _ _ rfl ?_
          exact d1
        · exact HFIN.out
    · by_cases x1 : x = 1
      · subst x1
        clear F3
        by_cases hp : 0 < np
        · have hp' : (0 : Int) < (np : Int) := by omega
          have hpb : ∃ pb, ap = some ⟨pb, 0, none⟩ := by
            obtain rfl := HQ.out
            have h2 := HOW.out
            rw [HV.out] at h2
            obtain ⟨pb, e, _⟩ := own_first h2.1 (pcs_at z.ps 0 (by rw [HNP.out]; exact hp)).1 (by rw [HNP.out]; exact hp)
            exact ⟨pb, e⟩
          obtain ⟨pb, rfl⟩ := hpb
          have HC : Hid (∀ v, Ta w v g tb (some ⟨nb, 0, none⟩) n c V (ms ++ z :: l) → v.cell? ⟨tb, 0, none⟩ = some (.slice (some ⟨nb, 0, none⟩) n c) ∧ v.cell? ⟨nb, q * 3, none⟩ = some (.slice (some ⟨pb, 0, none⟩) np cp) ∧ v.cell? ⟨pb, 0, none⟩ = some (.string (pAtB z.ps 0).1) ∧ v.frozen? ⟨pb, 0, none⟩ = false ∧ ∀ s, Tf w (v.setCell ⟨pb, 0, none⟩ (.string s)) g tb (some ⟨nb, 0, none⟩) n c) := by
            obtain rfl := HQ.out
            intro v hv
            have hlt : ms.length < (ms ++ z :: l).length := by simp
            have h1 := hv.nc hlt HV.out
            have h2 := (hv.na.own _ hlt).1
            rw [nAt_append_at, HV.out] at h2
            obtain ⟨pb', e, d1, d2⟩ := own_first h2.1 (pcs_at z.ps 0 (by rw [HNP.out]; exact hp)).1 (by rw [HNP.out]; exact hp)
            cases e
            exact ⟨hv.fr.bk.cell (j := 0) rfl, h1.c0, d1, d2 0, fun s => hv.wP HV.out (by rw [HNP.out]; exact hp) s⟩
          clear HOW HV
          go_wp2_with fail
          go_cut [4] (fun x v => x = .int .i64 1 ∧ Hid (Tf w v g tb (some ⟨nb, 0, none⟩) n c))
          case first =>
            go_region_with (go_at_call 28; refine (anyKey_any g _ (T3.out.below (below_drew _)).fr.cu).mono ?_; rintro e w4 ⟨⟨s, rfl, hs⟩, hg4, hc4⟩; have T4 := (T3.out.below (below_drew _)).draw hg4 hc4; have t4 := (HC.out _ T4).1; have m4 := (HC.out _ T4).2.1; have p4 := (HC.out _ T4).2.2.1; have f4 := (HC.out _ T4).2.2.2.1)
            all_goals (go_wp2_with fail; go_meet)
            all_goals exact ⟨rfl, (HC.out _ T4).2.2.2.2 _⟩
          case rest =>
            obtain ⟨rfl, HT⟩ := hcut
            clear HC T3 m0 m1 m2 t0
            have e0 := HT.out.box
            have r0 := HT.out.res
            have rf := HT.out.free
            have d1 := HT.out.got
            have HFIN := hid HT.out.fin
            clear HT
            go_wp2
            refine bodyPost_ret (v := .agg #[.slice (some ⟨nb, 0, none⟩) n c]) ?_ rfl ?_
            · refine results_tree1 rfl _ _ _ rfl ?_
              exact d1
            · exact HFIN.out
        · have hp' : ¬ (0 : Int) < (np : Int) := by omega
          have F3 := hid T3.out.tf
          clear T3 HOW HV
          have e0 := F3.out.box
          have r0 := F3.out.res
          have rf := F3.out.free
          have d1 := F3.out.got
          have HFIN := hid F3.out.fin
          clear F3
          go_wp2
          refine bodyPost_ret (v := .agg #[.slice (some ⟨nb, 0, none⟩) n c]) ?_ rfl ?_
          · refine results_tree1 rfl _ _ _ rfl ?_
            exact d1
          · exact HFIN.out
      · by_cases x2 : x = 2
        · subst x2
          clear F3
          by_cases hp : 0 < ni
          · have hp' : (0 : Int) < (ni : Int) := by omega
            have hpb : ∃ pb, ai = some ⟨pb, 0, none⟩ := by
              obtain rfl := HQ.out
              have h2 := HOW.out
              rw [HV.out] at h2
              obtain ⟨pb, e, _⟩ := own_first h2.2.2 (first_map z.kids (Value.int .i64) (d := 0) (by rw [HNI.out]; exact hp)) (by rw [HNI.out]; exact hp)
              exact ⟨pb, e⟩
            obtain ⟨pb, rfl⟩ := hpb
            have HC : Hid (∀ v, Ta w v g tb (some ⟨nb, 0, none⟩) n c V (ms ++ z :: l) → v.cell? ⟨tb, 0, none⟩ = some (.slice (some ⟨nb, 0, none⟩) n c) ∧ v.cell? ⟨nb, q * 3 + 2, none⟩ = some (.slice (some ⟨pb, 0, none⟩) ni ci) ∧ v.cell? ⟨pb, 0, none⟩ = some (.int .i64 (z.kids[0]?.getD 0)) ∧ v.frozen? ⟨pb, 0, none⟩ = false ∧ ∀ s, Tf w (v.setCell ⟨pb, 0, none⟩ (.int .i64 s)) g tb (some ⟨nb, 0, none⟩) n c) := by
              obtain rfl := HQ.out
              intro v hv
              have hlt : ms.length < (ms ++ z :: l).length := by simp
              have h1 := hv.nc hlt HV.out
              have h2 := (hv.na.own _ hlt).1
              rw [nAt_append_at, HV.out] at h2
              obtain ⟨pb', e, d1, d2⟩ := own_first h2.2.2 (first_map z.kids (Value.int .i64) (d := 0) (by rw [HNI.out]; exact hp)) (by rw [HNI.out]; exact hp)
              cases e
              exact ⟨hv.fr.bk.cell (j := 0) rfl, h1.c2, d1, d2 0, fun s => hv.wI HV.out (by rw [HNI.out]; exact hp) s⟩
            clear HOW HV
            go_wp2_with fail
            go_cut [4] (fun x v => x = .int .i64 2 ∧ Hid (Tf w v g tb (some ⟨nb, 0, none⟩) n c))
            case first =>
              go_region_with (go_at_call 68; refine (raw_cu g _ (T3.out.below (below_drew _)).fr.cu).mono ?_; rintro e w4 ⟨⟨s, rfl, hs⟩, hg4, hc4⟩; have T4 := (T3.out.below (below_drew _)).draw hg4 hc4; have t4 := (HC.out _ T4).1; have m4 := (HC.out _ T4).2.1; have p4 := (HC.out _ T4).2.2.1; have f4 := (HC.out _ T4).2.2.2.1)
              all_goals (go_wp2_with fail; go_meet)
              all_goals exact ⟨rfl, (HC.out _ T4).2.2.2.2 _⟩
            case rest =>
              obtain ⟨rfl, HT⟩ := hcut
              clear HC T3 m0 m1 m2 t0
              have e0 := HT.out.box
              have r0 := HT.out.res
              have rf := HT.out.free
              have d1 := HT.out.got
              have HFIN := hid HT.out.fin
              clear HT
              go_wp2
              refine bodyPost_ret (v := .agg #[.slice (some ⟨nb, 0, none⟩) n c]) ?_ rfl ?_
              · refine results_tree1 rfl _ _ _ rfl ?_
                exact d1
              · exact HFIN.out
          · have hp' : ¬ (0 : Int) < (ni : Int) := by omega
            have F3 := hid T3.out.tf
            clear T3 HOW HV
            have e0 := F3.out.box
            have r0 := F3.out.res
            have rf := F3.out.free
            have d1 := F3.out.got
            have HFIN := hid F3.out.fin
            clear F3
            go_wp2
            refine bodyPost_ret (v := .agg #[.slice (some ⟨nb, 0, none⟩) n c]) ?_ rfl ?_
            · refine results_tree1 rfl _ _ _ rfl ?_
              exact d1
            · exact HFIN.out
        · by_cases x3 : x = 3
          · subst x3
            clear F3
            have TU : Hid (Ta w (w3.alloc (.cells #[.slice ap np cp, .slice ax nx cx, .slice ai ni ci] 106)).drew g tb (some ⟨nb, 0, none⟩) n c V (ms ++ z :: l)) := (T3.out.below (below_alloc _ _)).below (below_drew _)
            have HBN : Hid (Bk (w3.alloc (.cells #[.slice ap np cp, .slice ax nx cx, .slice ai ni ci] 106)).drew w3.heap.size 106 [.slice ap np cp, .slice ax nx cx, .slice ai ni ci]) := (Bk.new w3 106 [.slice ap np cp, .slice ax nx cx, .slice ai ni ci]).below (below_drew _)
            have hu1 := (T3.out.below (below_alloc w3 (.cells #[.slice ap np cp, .slice ax nx cx, .slice ai ni ci] 106))).fr.bk.cell (j := 0) rfl
            have ba3 := (T3.out.below (below_alloc w3 (.cells #[.slice ap np cp, .slice ax nx cx, .slice ai ni ci] 106))).fr.bk.cell (j := 0) rfl
            have HU1 := hid (TU.out.fr.bk.cell (j := 0) rfl)
            have HU2 := hid (TU.out.fr.bk.free 0)
            have HRW : Hid ((w3.alloc (.cells #[.slice ap np cp, .slice ax nx cx, .slice ai ni ci] 106)).drew.ownsRow 0 106 3 (.slice (some ⟨nb, 0, none⟩) n c) n (ncs V)) := by
              have := TU.out.na.row
              rwa [← hnl.out] at this
            have HNB : Hid ((Value.slice (some ⟨nb, 0, none⟩) n c).ownBlock ≠ some tb) := fun e => by cases e; exact (TU.out.lo.1 nb rfl).2 rfl
            have HFIN : Hid (∀ (a5 : Option Addr) (n5 c5 : Nat) (w5 : World), w5.ownsRow 0 106 3 (.slice a5 n5 c5) (n + 1) (ncs V ++ [.slice ap np cp, .slice ax nx cx, .slice ai ni ci]) → (w3.alloc (.cells #[.slice ap np cp, .slice ax nx cx, .slice ai ni ci] 106)).drew.grownBy w5 (Value.slice (some ⟨nb, 0, none⟩) n c).ownBlock →
                ((Value.slice a5 n5 c5).ownBlock = (Value.slice (some ⟨nb, 0, none⟩) n c).ownBlock ∨ (Value.slice a5 n5 c5).ownBlock = some (w3.alloc (.cells #[.slice ap np cp, .slice ax nx cx, .slice ai ni ci] 106)).drew.heap.size) → Tf w (w5.setCell ⟨tb, 0, none⟩ (.slice a5 n5 c5)) g tb a5 n5 c5) := by
              obtain rfl := HQ.out
              intro a5 n5 c5 w5 h1 h2 h3
              refine TU.out.wN (i := ms.length) (by simp) ?_ h2 h3
              rw [HV.out]
              rw [← hnl.out]
              exact h1
            clear T3 HOW HV
            go_wp2_with fail
            go_cut [4] (fun x v => x = .int .i64 3 ∧ Hid (∃ a5 n5 c5, Tf w v g tb a5 n5 c5))
            case first =>
              go_region_law (first
                | (refine step_append_node1 rfl _ _ rfl _ n _ rfl HRW.out w3.heap.size (.slice ap np cp, .slice ax nx cx, .slice ai ni ci) ⟨rfl, rfl, rfl⟩ rfl HBN.out (by omega) tb 0 _ HU1.out HU2.out HNB.out ?_; intro a5 n5 c5 w5 hO5 hg5 ha5 hc5 hf5))
              all_goals (go_wp2_with fail; go_meet)
              all_goals exact ⟨rfl, _, _, _, HFIN.out _ _ _ _ hO5 hg5 ha5⟩
            case rest =>
              obtain ⟨rfl, HT⟩ := hcut
              obtain ⟨a5, n5, c5, hT5⟩ := HT.out
              have HT5 := hid hT5
              clear HBN HU1 HU2 HRW HNB HFIN TU m0 m1 m2 hu1 ba3 t0 HT hT5
              have e0 := HT5.out.box
              have r0 := HT5.out.res
              have rf := HT5.out.free
              have d1 := HT5.out.got
              have HFIN := hid HT5.out.fin
              clear HT5
              go_wp2
              refine bodyPost_ret (v := .agg #[.slice a5 n5 c5]) ?_ rfl ?_
              · refine results_tree1 rfl _ _ _ rfl ?_
                exact d1
              · exact HFIN.out
          · by_cases x4 : x = 4
            · subst x4
              clear F3
              by_cases hp : 0 < nx
              · have hp' : (0 : Int) < (nx : Int) := by omega
                have hpb : ∃ pb, ax = some ⟨pb, 0, none⟩ := by
                  obtain rfl := HQ.out
                  have h2 := HOW.out
                  rw [HV.out] at h2
                  obtain ⟨pb, e, _⟩ := own_first h2.2.1 (first_map z.keys Value.string (d := ⟨#[]⟩) (by rw [HNX.out]; exact hp)) (by rw [HNX.out]; exact hp)
                  exact ⟨pb, e⟩
                obtain ⟨pb, rfl⟩ := hpb
                have HC : Hid (∀ v, Ta w v g tb (some ⟨nb, 0, none⟩) n c V (ms ++ z :: l) → v.cell? ⟨tb, 0, none⟩ = some (.slice (some ⟨nb, 0, none⟩) n c) ∧ v.cell? ⟨nb, q * 3 + 1, none⟩ = some (.slice (some ⟨pb, 0, none⟩) nx cx) ∧ v.cell? ⟨pb, 0, none⟩ = some (.string (z.keys[0]?.getD ⟨#[]⟩)) ∧ v.frozen? ⟨pb, 0, none⟩ = false ∧ ∀ s, Tf w (v.setCell ⟨pb, 0, none⟩ (.string s)) g tb (some ⟨nb, 0, none⟩) n c) := by
                  obtain rfl := HQ.out
                  intro v hv
                  have hlt : ms.length < (ms ++ z :: l).length := by simp
                  have h1 := hv.nc hlt HV.out
                  have h2 := (hv.na.own _ hlt).1
                  rw [nAt_append_at, HV.out] at h2
                  obtain ⟨pb', e, d1, d2⟩ := own_first h2.2.1 (first_map z.keys Value.string (d := ⟨#[]⟩) (by rw [HNX.out]; exact hp)) (by rw [HNX.out]; exact hp)
                  cases e
                  exact ⟨hv.fr.bk.cell (j := 0) rfl, h1.c1, d1, d2 0, fun s => hv.wK HV.out (by rw [HNX.out]; exact hp) s⟩
                clear HOW HV
                go_wp2_with fail
                go_cut [4] (fun x v => x = .int .i64 4 ∧ Hid (Tf w v g tb (some ⟨nb, 0, none⟩) n c))
                case first =>
                  go_region_with (go_at_call 69; refine (key_any g _ (T3.out.below (below_drew _)).fr.cu).mono ?_; rintro e w4 ⟨⟨s, rfl, hs⟩, hg4, hc4⟩; have T4 := (T3.out.below (below_drew _)).draw hg4 hc4; have t4 := (HC.out _ T4).1; have m4 := (HC.out _ T4).2.1; have p4 := (HC.out _ T4).2.2.1; have f4 := (HC.out _ T4).2.2.2.1)
                  all_goals (go_wp2_with fail; go_meet)
                  all_goals exact ⟨rfl, (HC.out _ T4).2.2.2.2 _⟩
                case rest =>
                  obtain ⟨rfl, HT⟩ := hcut
                  clear HC T3 m0 m1 m2 t0
                  have e0 := HT.out.box
                  have r0 := HT.out.res
                  have rf := HT.out.free
                  have d1 := HT.out.got
                  have HFIN := hid HT.out.fin
                  clear HT
                  go_wp2
                  refine bodyPost_ret (v := .agg #[.slice (some ⟨nb, 0, none⟩) n c]) ?_ rfl ?_
                  · refine results_tree1 rfl _ _ _ rfl ?_
                    exact d1
                  · exact HFIN.out
              · have hp' : ¬ (0 : Int) < (nx : Int) := by omega
                have F3 := hid T3.out.tf
                clear T3 HOW HV
                have e0 := F3.out.box
                have r0 := F3.out.res
                have rf := F3.out.free
                have d1 := F3.out.got
                have HFIN := hid F3.out.fin
                clear F3
                go_wp2
                refine bodyPost_ret (v := .agg #[.slice (some ⟨nb, 0, none⟩) n c]) ?_ rfl ?_
                · refine results_tree1 rfl _ _ _ rfl ?_
                  exact d1
                · exact HFIN.out
            · by_cases x5 : x = 5
              · subst x5
                clear F3
                by_cases hp : 0 < np
                · have hp' : (0 : Int) < (np : Int) := by omega
                  have hpb : ∃ pb, ap = some ⟨pb, 0, none⟩ ∧ np ≤ cp ∧ cp ≤ 9223372036854775807 := by
                    obtain rfl := HQ.out
                    have h2 := HOW.out
                    rw [HV.out] at h2
                    obtain ⟨pb, e, _⟩ := own_first h2.1 (pcs_at z.ps 0 (by rw [HNP.out]; exact hp)).1 (by rw [HNP.out]; exact hp)
                    exact ⟨pb, e, (Rw.len (rw_own h2.1 (S := fun _ => True) (fun _ _ _ _ => trivial))).2⟩
                  obtain ⟨pb, rfl, hcp1, hcp2⟩ := hpb
                  have TD := hid (T3.out.below (below_drew _))
                  have mf0 := mf.out (q * 3)
                  have HFIN : Hid (∀ o, (o = 2 ∨ np = 1) → Tf w (w3.drew.setCell ⟨nb, q * 3, none⟩ (.slice (some ⟨pb, o, none⟩) (np - 1) (cp - 1))) g tb (some ⟨nb, 0, none⟩) n c) := by
                    obtain rfl := HQ.out
                    exact fun o ho => TD.out.wC HV.out hp o ho
                  clear HOW HV T3 TD
                  by_cases hc1 : cp = 1
                  · have hn1 : np = 1 := by omega
                    subst hc1 hn1
                    have HF := hid (HFIN.out 0 (.inr rfl))
                    clear HFIN
                    go_wp2_with fail
                    go_cut [4] (fun x v => x = .int .i64 5 ∧ Hid (Tf w v g tb (some ⟨nb, 0, none⟩) n c))
                    case first =>
                      go_region_with (fail)
                      all_goals (go_wp2_with fail; go_meet)
                      all_goals exact ⟨rfl, HF.out⟩
                    case rest =>
                      obtain ⟨rfl, HT⟩ := hcut
                      clear HF m0 m1 m2 t0
                      have e0 := HT.out.box
                      have r0 := HT.out.res
                      have rf := HT.out.free
                      have d1 := HT.out.got
                      have HFIN := hid HT.out.fin
                      clear HT
                      go_wp2
                      refine bodyPost_ret (v := .agg #[.slice (some ⟨nb, 0, none⟩) n c]) ?_ rfl ?_
                      · refine results_tree1 rfl _ _ _ rfl ?_
                        exact d1
                      · exact HFIN.out
                  · have hc1' : ¬ 1 = cp := by omega
                    have HF := hid (HFIN.out 2 (.inl rfl))
                    clear HFIN
                    go_wp2_with fail
                    go_cut [4] (fun x v => x = .int .i64 5 ∧ Hid (Tf w v g tb (some ⟨nb, 0, none⟩) n c))
                    case first =>
                      go_region_with (fail)
                      all_goals (go_wp2_with fail; go_meet)
                      all_goals exact ⟨rfl, HF.out⟩
                    case rest =>
                      obtain ⟨rfl, HT⟩ := hcut
                      clear HF m0 m1 m2 t0
                      have e0 := HT.out.box
                      have r0 := HT.out.res
                      have rf := HT.out.free
                      have d1 := HT.out.got
                      have HFIN := hid HT.out.fin
                      clear HT
                      go_wp2
                      refine bodyPost_ret (v := .agg #[.slice (some ⟨nb, 0, none⟩) n c]) ?_ rfl ?_
                      · refine results_tree1 rfl _ _ _ rfl ?_
                        exact d1
                      · exact HFIN.out
                · have hp' : ¬ (0 : Int) < (np : Int) := by omega
                  have F3 := hid T3.out.tf
                  clear T3 HOW HV
                  have e0 := F3.out.box
                  have r0 := F3.out.res
                  have rf := F3.out.free
                  have d1 := F3.out.got
                  have HFIN := hid F3.out.fin
                  clear F3
                  go_wp2
                  refine bodyPost_ret (v := .agg #[.slice (some ⟨nb, 0, none⟩) n c]) ?_ rfl ?_
                  · refine results_tree1 rfl _ _ _ rfl ?_
                    exact d1
                  · exact HFIN.out
              · clear T3 HOW HV m0 m1 m2 t0
                have e0 := F3.out.box
                have r0 := F3.out.res
                have rf := F3.out.free
                have d1 := F3.out.got
                have HFIN := hid F3.out.fin
                clear F3
                go_wp2
                refine bodyPost_ret (v := .agg #[.slice (some ⟨nb, 0, none⟩) n c]) ?_ rfl ?_
                · refine results_tree1 rfl _ _ _ rfl ?_
                  exact d1
                · exact HFIN.out
end Go.Proofs.Ytkflneeifllpgaa
