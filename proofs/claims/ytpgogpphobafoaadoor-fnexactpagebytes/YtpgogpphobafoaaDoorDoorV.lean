/-
  A row's list of variables, opened and shut one by one.
-/
import Derived.Test.YtpgogpphobafoaaDoorDoor
import Derived.ProofKit
import Derived.OpenShut
import Derived.ChangeOld
import Derived.Stop.LaidErr
namespace Go.Proofs.YtpgogpphobafoaaDoor
open Go.ChangeShapes Go.WideShapes Go.ChangeAt Go.RowKit
theorem trodVars_first {H : Type} {enc : TypeId × Value → H} {P : Program} {w : World} {spare : Nat → Bool} {n : String} {ns : List String} {gs : List (DataW H)} {ps : List MemPlace} (h : DataW.TrodVars enc P w spare (n :: ns) gs ps) :
    ∃ g t cs f d p ds q, gs = d :: ds ∧ P.globalNamed n = some g ∧ (P.globals[g]?).map (·.type) = some t ∧ w.var? P n = some cs ∧ DataW.trod enc P w 0 spare true f t cs.toList = some (d, p) ∧ DataW.TrodVars enc P w spare ns ds q ∧ ps = MemPlace.row ⟨g, 0, none⟩ cs.size ++ p ++ q := by
  cases gs with
  | nil => simp [DataW.TrodVars] at h
  | cons d ds =>
    obtain ⟨g, t, cs, f, p, q, h1, h2, h3, h4, hs, e⟩ := h
    exact ⟨g, t, cs, f, d, p, ds, q, rfl, h1, h2, h3, h4, hs, e⟩
theorem vars_first {H : Type} (enc : TypeId × Value → H) {P : Program} {W : World} {n : String} {ns : List String} {g : Nat} {ti : TypeId} {ms : Array (String × TypeId)} {x : Value} {ds : List (DataW H)} {q : List MemPlace} {sp : Nat → Bool}
    (hg : P.globalNamed n = some g) (ht : (P.globals[g]?).map (·.type) = some ti) (hi : P.underlying ti = some (.interface ms)) (h : W.var? P n = some #[x]) (ix : IsIface x) (hr : DataW.TrodVars enc P W sp ns ds q) :
    DataW.TrodVars enc P W sp (n :: ns) (tok enc x :: ds) (.cell g 0 :: q) :=
  ⟨g, ti, #[x], 1, [], q, hg, ht, h, trod_held hi ix 0, hr, rfl⟩
end Go.Proofs.YtpgogpphobafoaaDoor

