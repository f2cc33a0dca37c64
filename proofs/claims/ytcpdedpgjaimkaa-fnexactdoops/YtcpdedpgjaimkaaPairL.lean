/-
  What the law's helpers do with pairs and slices of pairs: sizes summed, copied, held against each other.
-/
import Derived.Test.YtcpdedpgjaimkaaPk
import Derived.Test.YtcpdedpgjaimkaaKc
import Derived.Laws.MakeOwn
namespace Go.Proofs.Ytcpdedpgjaimkaa
open Go.RowKit

/-- Block g is a row with the cells xs. -/
def Bk (w : World) (g : Nat) (T : TypeId) (xs : List Value) : Prop := w.heap[g]? = some (.cells xs.toArray T (0, 0))
theorem Bk.lt {w : World} {g : Nat} {T : TypeId} {xs : List Value} (h : Bk w g T xs) : g < w.heap.size := (Array.getElem?_eq_some_iff.1 h).1
theorem Bk.to {w w' : World} {g : Nat} {T : TypeId} {xs : List Value} {R : Nat → Prop} (h : Bk w g T xs) (ho : Only R w w') (hR : ¬ R g) : Bk w' g T xs := (ho.block g h.lt hR).trans h
theorem Bk.below {w w' : World} {g : Nat} {T : TypeId} {xs : List Value} (h : Bk w g T xs) (hb : Below w.heap.size w w') : Bk w' g T xs := (hb.block g h.lt).trans h
theorem Bk.new (w : World) (T : TypeId) (xs : List Value) : Bk (w.alloc (.cells xs.toArray T)) w.heap.size T xs := heap_alloc_new w _
theorem Bk.cell {w : World} {g : Nat} {T : TypeId} {xs : List Value} (h : Bk w g T xs) {j : Nat} {u : Value} (hu : xs[j]? = some u) : w.cell? ⟨g, j, none⟩ = some u := by
  have h' : w.heap[g]? = some (.cells xs.toArray T (0, 0)) := h
  simp [World.cell?, h', hu]
theorem Bk.free {w : World} {g : Nat} {T : TypeId} {xs : List Value} (h : Bk w g T xs) (j : Nat) : w.frozen? ⟨g, j, none⟩ = false := by
  have h' : w.heap[g]? = some (.cells xs.toArray T (0, 0)) := h
  simp [World.frozen?, h']
theorem Bk.set {w : World} {g : Nat} {T : TypeId} {xs : List Value} (h : Bk w g T xs) (o : Nat) (x : Value) : Bk (w.setCell ⟨g, o, none⟩ x) g T (xs.set o x) := by
  have h' : w.heap[g]? = some (.cells xs.toArray T (0, 0)) := h
  show (w.setCell ⟨g, o, none⟩ x).heap[g]? = _
  simp [World.setCell, Array.getElem?_modify, h']
theorem Bk.setOther {w : World} {g : Nat} {T : TypeId} {xs : List Value} (h : Bk w g T xs) {b : Nat} (hb : g ≠ b) (o : Nat) (x : Value) : Bk (w.setCell ⟨b, o, none⟩ x) g T xs := by
  show (w.setCell ⟨b, o, none⟩ x).heap[g]? = _
  rw [Below.heap_setCell _ _ _ _ hb]
  exact h
theorem Bk.alloc {w : World} {g : Nat} {T : TypeId} {xs : List Value} (h : Bk w g T xs) (o : Obj) : Bk (w.alloc o) g T xs := by
  show (w.alloc o).heap[g]? = _
  rw [Below.heap_alloc _ _ _ h.lt]
  exact h
theorem Bk.rw {w : World} {g : Nat} {T : TypeId} {xs : List Value} {n c : Nat} (h : Bk w g T xs) (hn : n ≤ c) (hc : c ≤ 9223372036854775807) (h0 : n = 0 → xs = []) (S : Nat → Prop) (hS : S g) : Rw w S (.slice (some ⟨g, 0, none⟩) n c) n xs :=
  ⟨_, c, rfl, hn, hc, h0, fun h => by (cases h), fun _ => ⟨g, 0, rfl, h.lt, hS, fun j u hu => by rw [Nat.zero_add]; exact h.cell hu⟩⟩
theorem Bk.pr {w : World} {g n : Nat} {T : TypeId} {ps : List PB} (h : Bk w g T (pcs ps)) (hn : n = ps.length) (hc : n ≤ 9223372036854775807) (S : Nat → Prop) (hS : S g) : Pr w S (.slice (some ⟨g, 0, none⟩) n n) ps := by
  subst hn
  exact h.rw (Nat.le_refl _) hc (fun h0 => by rw [List.eq_nil_of_length_eq_zero h0]; rfl) S hS
theorem pcs_set (ps : List PB) (p : PB) : ∀ j, j < ps.length → pcs (ps.set j p) = ((pcs ps).set (j * 2) (.string p.1)).set (j * 2 + 1) (.string p.2) := by
  induction ps with
  | nil => intro j h; exact absurd h (Nat.not_lt_zero _)
  | cons q ps ih =>
    intro j h
    cases j with
    | zero => rfl
    | succ j =>
      have := ih j (by simpa using h)
      rw [show (j + 1) * 2 = j * 2 + 2 by omega, show j * 2 + 2 + 1 = j * 2 + 1 + 2 by omega]
      show Value.string q.1 :: Value.string q.2 :: pcs (ps.set j p) = _
      rw [this]
      rfl
theorem infoPairI : (Try.prog.info? 33).map (fun i => (i.zero, i.size, i.bytes)) = some (some (.agg #[.string ⟨#[]⟩, .string ⟨#[]⟩]), 2, 32) := by kernel_rfl
/-- make([]T, n). -/
theorem run_make_n {P : Program} (t e : TypeId) (z : Value) (size bytes : Nat) (ht : P.underlying t = some (.slice e)) (hinfo : (P.info? e).map (fun i => (i.zero, i.size, i.bytes)) = some (some z, size, bytes)) (n : Nat) (hb : bytes * n ≤ 281474976710656) (h63 : n ≤ 9223372036854775807) (w : World) :
    (Instr.makeSlice t (.int .i64 (n : Int)) (.int .i64 (n : Int))).run P w = .ok (.slice (some ⟨w.heap.size, 0, none⟩) n n) (w.alloc (.cells (madeCells z.cells (n * size)) e)) := by
  obtain ⟨i, hi, hz⟩ := Option.map_eq_some_iff.1 hinfo
  simp only [Prod.mk.injEq] at hz
  obtain ⟨hz, rfl, rfl⟩ := hz
  have hb' : (i.bytes : Int) * (n : Int) ≤ 281474976710656 := by
    have h : ((i.bytes * n : Nat) : Int) ≤ 281474976710656 := by omega
    rwa [Int.natCast_mul] at h
  have := run_make (P := P) w t e i z ht hi hz .i64 .i64 n n (by omega) (Int.le_refl _) hb' (by omega)
  simpa using this
theorem made_pairs (n : Nat) : madeCells (Value.agg #[.string ⟨#[]⟩, .string ⟨#[]⟩]).cells (n * 2) = (pcs (List.replicate n (⟨#[]⟩, ⟨#[]⟩))).toArray := by
  apply Array.ext
  · simp [madeCells, pcs_length]
  · intro i h1 h2
    simp [pcs_length] at h2
    simp only [madeCells, List.getElem_toArray]
    have h3 : (pcs (List.replicate n ((⟨#[]⟩, ⟨#[]⟩) : PB)))[i]? = some (.string ⟨#[]⟩) := by
      rcases Nat.mod_two_eq_zero_or_one i with e | e
      · have := (pcs_at (List.replicate n ((⟨#[]⟩, ⟨#[]⟩) : PB)) (i / 2) (by simp; omega)).1
        rw [show i / 2 * 2 = i by omega] at this
        rw [this]
        simp [pAtB, show i / 2 < n by omega]
      · have := (pcs_at (List.replicate n ((⟨#[]⟩, ⟨#[]⟩) : PB)) (i / 2) (by simp; omega)).2
        rw [show i / 2 * 2 + 1 = i by omega] at this
        rw [this]
        simp [pAtB, show i / 2 < n by omega]
    have h4 := List.getElem?_eq_some_iff.1 h3
    rw [h4.2]
    rcases Nat.mod_two_eq_zero_or_one i with e | e <;> simp [Value.cells, e]
/-- The pairs as far as copied. -/
def ptP (l : List PB) (k : Nat) : List PB := l.take k ++ List.replicate (l.length - k) (⟨#[]⟩, ⟨#[]⟩)
theorem ptP_length (l : List PB) (k : Nat) (h : k ≤ l.length) : (ptP l k).length = l.length := by simp [ptP]; omega
theorem ptP_set (l : List PB) (k : Nat) (h : k < l.length) : (ptP l k).set k (pAtB l k) = ptP l (k + 1) := by
  have e : pAtB l k = l[k] := by simp [pAtB, h]
  rw [e]
  have hl : (l.take k).length = k := by simp; omega
  simp only [ptP]
  rw [List.set_append_right _ _ (by omega), hl]
  have h2 : l.length - k = (l.length - (k + 1)) + 1 := by omega
  rw [List.take_succ_eq_append_getElem h, h2, List.replicate_succ, Nat.sub_self, List.set_cons_zero, List.append_assoc]
  rfl
theorem load_pair {w : World} {g : Nat} {k v : ByteArray} (c0 : w.cell? ⟨g, 0, none⟩ = some (.string k)) (c1 : w.cell? ⟨g, 1, none⟩ = some (.string v)) :
    (loadVar 33 ⟨g, 0, none⟩).run Try.prog w = .ok (.agg #[.string k, .string v]) w := by go_simp
theorem results_pair {fn : Func} {p : Tmp} (h : fn.results = #[.cell p 33]) (tmps : Array Value) (w : World) (g : Nat) {k v : ByteArray} (hp : tmps.getD p undef = .pointer (some ⟨g, 0, none⟩))
    (c0 : w.cell? ⟨g, 0, none⟩ = some (.string k)) (c1 : w.cell? ⟨g, 1, none⟩ = some (.string v)) : (results fn tmps).run Try.prog w = .ok (.agg #[.string k, .string v]) w := by
  have hp' : tmps[p]?.getD undef = .pointer (some ⟨g, 0, none⟩) := by simpa using hp
  simp [results, h, hp', asAddr, load_pair c0 c1]
def szOkP (l : List PB) : Prop := ∀ i, (pAtB l i).1.size ≤ 9223372036854775807 ∧ (pAtB l i).2.size ≤ 9223372036854775807
end Go.Proofs.Ytcpdedpgjaimkaa

