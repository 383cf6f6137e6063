/-
  What lies below n lies below a greater m, too.
-/
import Derived.Test.YtdapnjnmhkdnpaaDoorFmData
namespace Go.Proofs.YtdapnjnmhkdnpaaDoor.Fm
open Go Go.RowKit
theorem TsAt.mono {n m : Nat} {w : World} (hn : n ≤ m) (l : List Tm) : ∀ {b o : Nat}, TsAt n w b o l → TsAt m w b o l := by
  match l with
  | [] => exact fun _ => by simp [TsAt]
  | .mk v nm args :: r =>
    intro b o h
    simp only [TsAt] at h ⊢
    obtain ⟨⟨h0, h1, h2, a, cap, b', o', h3, h4, h5, h6⟩, h7⟩ := h
    exact ⟨⟨h0, h1, h2, a, cap, b', o', h3, h4, h5.imp id fun h => ⟨h.1, Nat.lt_of_lt_of_le h.2 hn⟩, TsAt.mono hn args h6⟩, TsAt.mono hn r h7⟩
termination_by SizeOf.sizeOf l
theorem FsAt.mono {n m : Nat} {w : World} (hn : n ≤ m) (l : List Fo) : ∀ {b o : Nat}, FsAt n w b o l → FsAt m w b o l := by
  match l with
  | [] => exact fun _ => by simp [FsAt]
  | .mk op nm args sub :: r =>
    intro b o h
    simp only [FsAt] at h ⊢
    obtain ⟨⟨h0, hop, h1, h2, ⟨a, cap, b', o', h3, h4, h5, h6⟩, a2, cap2, b2, o2, g3, g4, g5, g6⟩, h7⟩ := h
    exact ⟨⟨h0, hop, h1, h2, ⟨a, cap, b', o', h3, h4, h5.imp id fun h => ⟨h.1, Nat.lt_of_lt_of_le h.2 hn⟩, h6.mono hn args⟩, a2, cap2, b2, o2, g3, g4, g5.imp id fun h => ⟨h.1, Nat.lt_of_lt_of_le h.2 hn⟩, FsAt.mono hn sub g6⟩, FsAt.mono hn r h7⟩
termination_by SizeOf.sizeOf l
theorem SlT.mono {n m : Nat} {w : World} {v : Value} {l : List Tm} (h : SlT n w v l) (hn : n ≤ m) : SlT m w v l := by
  obtain ⟨a, cap, b, o, h1, h2, h3, h4⟩ := h
  exact ⟨a, cap, b, o, h1, h2, h3.imp id fun h => ⟨h.1, Nat.lt_of_lt_of_le h.2 hn⟩, h4.mono hn l⟩
theorem SlF.mono {n m : Nat} {w : World} {v : Value} {l : List Fo} (h : SlF n w v l) (hn : n ≤ m) : SlF m w v l := by
  obtain ⟨a, cap, b, o, h1, h2, h3, h4⟩ := h
  exact ⟨a, cap, b, o, h1, h2, h3.imp id fun h => ⟨h.1, Nat.lt_of_lt_of_le h.2 hn⟩, h4.mono hn l⟩
theorem FoV.mono {n m : Nat} {w : World} {v0 v1 v2 v3 : Value} {f : Fo} (h : FoV n w v0 v1 v2 v3 f) (hn : n ≤ m) : FoV m w v0 v1 v2 v3 f := ⟨h.op, h.bd, h.nm, h.ok, h.args.mono hn, h.sub.mono hn⟩
end Go.Proofs.YtdapnjnmhkdnpaaDoor.Fm
