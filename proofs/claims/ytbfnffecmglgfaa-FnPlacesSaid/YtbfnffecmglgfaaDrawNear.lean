/- The draw for NearestKey. -/
import Derived.Test.YtbfnffecmglgfaaDrawKey
namespace Go.Proofs.Ytbfnffecmglgfaa
open Go Go.RowKit

theorem small_ok {m : Mk} (h : m.ok = true) : Small m := by
  obtain ⟨m1, m2, m3, m4, m5, m6, m7, m8, m9, m10, m11⟩ := Mk.ok_true h
  unfold Small
  omega

theorem Src.put5 {w : World} {B g n c b : Nat} {A : Option Addr} (h : Src w B g A n c) (hb : g < b) (m : Mk) : Src (put5 w b m) B g A n c := by
  have k : ∀ (w : World) (i : Nat) (v : Value), Src w B g A n c → Src (w.setCell ⟨b, i, none⟩ v) B g A n c := fun w i v h =>
    h.apart (grown_set (p := ⟨b, i, none⟩) (World.grownBy.refl w (some b)) rfl v) (fun q e => by injection e with e; omega)
  exact k _ _ _ (k _ _ _ (k _ _ _ (k _ _ _ (k _ _ _ h))))

end Go.Proofs.Ytbfnffecmglgfaa
