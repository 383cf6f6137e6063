/-
  The table of signs; which parts are in brackets.
-/
import Derived.Test.YtdapnjnmhkdnpaaDoorMgText
import Derived.Test.YtdapnjnmhkdnpaaDoorFmRound
namespace Go.Proofs.YtdapnjnmhkdnpaaDoor.Fb
open Go Go.RowKit Go.Shelf Go.Proofs.YtdapnjnmhkdnpaaDoor.Fm Go.Proofs.YtdapnjnmhkdnpaaDoor.Ft
set_option linter.unusedVariables false
set_option linter.unusedSimpArgs false
/-- The signs as they are in the table (none for formulas without parts). -/
def sgT (o : Int) : ByteArray := if o = 1 ∨ o = 2 ∨ o = 15 ∨ o = 16 then ⟨#[]⟩ else sgW o
/-- The table as it lies in its block. -/
def STab (w : World) : Prop := 0 < w.heap.size ∧ ∀ k : Nat, 1 ≤ k → k < 17 → w.cell? ⟨0, k * 4, none⟩ = some (.string (sgT k)) ∧ w.cell? ⟨0, k * 4 + 1, none⟩ = some (.bool (spW k)) ∧
  w.cell? ⟨0, k * 4 + 2, none⟩ = some (.int .i64 (str k : Nat)) ∧ w.cell? ⟨0, k * 4 + 3, none⟩ = some (.bool (frR k))
theorem STab.keep {w w' : World} (h : STab w) (hb : w'.heap[0]? = w.heap[0]?) (hz : w.heap.size ≤ w'.heap.size) : STab w' := by
  refine ⟨Nat.lt_of_lt_of_le h.1 hz, fun k h1 h2 => ?_⟩
  have hc : ∀ q, w'.cell? ⟨0, q, none⟩ = w.cell? ⟨0, q, none⟩ := fun q => World.cell?_of_block (a := ⟨0, q, none⟩) hb
  simp only [hc]
  exact h.2 k h1 h2
set_option maxHeartbeats 1000000 in
/-- binary, at a part whose operator is one of the sixteen. -/
theorem binary_c (f : Fo) (v0 v1 v2 v3 : Value) (dn i : Nat) (w : World) (hf : FoV dn w v0 v1 v2 v3 f) (hd : dn ≤ w.heap.size) (hT : STab w) (hi : i < f.sub.length) (k : Nat) (hk : f.sub[i].op = (k : Int)) (h1 : 1 ≤ k) (h2 : k < 17) :
    Calls Tryd.prog 25 #[.agg #[v0, v1, v2, v3], .int .i64 (i : Int)] w fun e w' => e = .returned (.bool (decide (str f.sub[i].op < 6))) ∧ Below w.heap.size w w' := by
  have hb0 : Below w.heap.size w (w.alloc (.cells #[v0, v1, v2, v3] 25)) := (Below.refl _ _).alloc (Nat.le_refl _) _
  have hf2 := hf.below hb0 hd
  have hT2 := hT.keep (hb0.block _ hT.1) hb0.size
  obtain ⟨rfl, _, rfl, _, hA, hS⟩ := hf
  obtain ⟨⟨a1, k1, rfl⟩, _⟩ := hA.form
  obtain ⟨⟨a2, k2, rfl⟩, hl⟩ := hS.form
  obtain ⟨_, b, o, rfl, hbn, u0, u1, u2, u3, c0, c1, c2, c3, hu⟩ := (hS.below hb0 hd).get hi
  have e0 := hu.op
  rw [hk] at e0
  subst e0
  obtain ⟨s0, s1, s2, s3⟩ := hT2.2 k h1 h2
  have hz := hT2.1
  have n0 : (0 : Int) ≤ (i : Int) := by omega
  have n1 : (i : Int) < (f.sub.length : Int) := by omega
  have n2 : (k : Int) < 17 := by omega
  rw [hk]
  clear hA hS hf2 hu hT hT2 hk
  go_enter Tryd.func25, Tryd.ntmps25
  go_wp2_with fail
  go_ret
  exact ⟨by show Ending.returned (Value.bool (decide (((str k : Nat) : Int) < 6))) = _; rw [show decide (((str k : Nat) : Int) < 6) = decide (str k < 6) from decide_eq_decide.2 (by omega)], hb0⟩
end Go.Proofs.YtdapnjnmhkdnpaaDoor.Fb
