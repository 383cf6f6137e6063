/-
  The contracts of term, atom, Of and example.
-/
import Derived.Test.YtnadjkofjgpabaaDoorFmEx
import Derived.Test.YtnadjkofjgpabaaDoorFmOwnF
namespace Go.Proofs.YtnadjkofjgpabaaDoor.Fm
open Go Go.RowKit Go.Shelf
set_option linter.unusedVariables false
set_option linter.unusedSimpArgs false
theorem term_c (c : UInt8) (a : Option Addr) (n k : Nat) (w : World) : Calls Tryd.prog 26 #[.string ⟨#[c]⟩, .slice a n k] w fun e w' => e = .returned (.agg #[.bool (decide ((117 : Int) ≤ (c.toNat : Int))), .string ⟨#[c]⟩, .slice a n k]) ∧ Below w.heap.size w w' := by
  go_enter Tryd.func26, Tryd.ntmps26
  go_wp2_with fail
  exact bodyPost_ret (v := .agg #[.bool (decide ((117 : Int) ≤ (c.toNat : Int))), .string ⟨#[c]⟩, .slice a n k]) (by simp [results, Tryd.results26, go_sem]; rfl) rfl ⟨rfl, (Below.refl _ _).alloc (Nat.le_refl _) _⟩
theorem atom_c (s : ByteArray) (a : Option Addr) (n k : Nat) (w : World) : Calls Tryd.prog 25 #[.string s, .slice a n k] w fun e w' => e = .returned (.agg #[.int .u8 1, .string s, .slice a n k, .slice none 0 0]) ∧ Below w.heap.size w w' := by
  go_enter Tryd.func25, Tryd.ntmps25
  go_wp2_with fail
  exact bodyPost_ret (v := .agg #[.int .u8 1, .string s, .slice a n k, .slice none 0 0]) (by simp [results, Tryd.results25, go_sem]) rfl ⟨rfl, (Below.refl _ _).alloc (Nat.le_refl _) _⟩
theorem of_c (o : Int) (s : ByteArray) (a : Option Addr) (n k : Nat) (w : World) : Calls Tryd.prog 51 #[.int .u8 o, .string s, .slice a n k] w fun e w' => e = .returned (.agg #[.int .u8 o, .string s, .slice none 0 0, .slice a n k]) ∧ Below w.heap.size w w' := by
  go_enter Tryd.func51, Tryd.ntmps51
  go_wp2_with fail
  exact bodyPost_ret (v := .agg #[.int .u8 o, .string s, .slice none 0 0, .slice a n k]) (by simp [results, Tryd.results51, go_sem]) rfl ⟨rfl, (Below.refl _ _).alloc (Nat.le_refl _) _⟩
/-- What lies in a block. -/
def Lay (W : World) (B : Nat) (cs : List Value) : Prop := ∀ j u, cs[j]? = some u → W.cell? ⟨B, j, none⟩ = some u
theorem Lay.below {W W' : World} {B n : Nat} {cs : List Value} (h : Lay W B cs) (hb : Below n W W') (hn : B < n) : Lay W' B cs := fun j u hj => (hb.cell (p := ⟨B, j, none⟩) hn).trans (h j u hj)
theorem Lay.new (W : World) (cs : List Value) (t : TypeId) : Lay (W.alloc (.cells cs.toArray t)) W.heap.size cs := fun j u hj => by
  rw [World.cell?_alloc_at _ _ _ _ rfl]
  simpa using hj
set_option maxHeartbeats 2000000 in
set_option maxRecDepth 20000 in
theorem example_c (w : World) : Calls Tryd.prog 27 #[] w fun e w' => ∃ v0 v1 v2 v3, e = .returned (.agg #[v0, v1, v2, v3]) ∧ FoV w'.heap.size w' v0 v1 v2 v3 exF ∧ Below w.heap.size w w' := by
  obtain ⟨s, hs⟩ : ∃ s, w.heap.size = s := ⟨_, rfl⟩
  go_enter Tryd.func27, Tryd.ntmps27
  go_wp2_with fail
  refine (term_c 120 _ _ _ _).mono ?_
  rintro e w1 ⟨rfl, hb1⟩
  go_wp2_with fail
  refine (term_c 97 _ _ _ _).mono ?_
  rintro e w2 ⟨rfl, hb2⟩
  go_wp2_with fail
  refine (term_c 102 _ _ _ _).mono ?_
  rintro e w3 ⟨rfl, hb3⟩
  go_wp2_with fail
  refine (atom_c _ _ _ _ _).mono ?_
  rintro e w4 ⟨rfl, hb4⟩
  go_wp2_with fail
  refine (atom_c _ _ _ _ _).mono ?_
  rintro e w5 ⟨rfl, hb5⟩
  go_wp2_with fail
  refine (of_c _ _ _ _ _ _).mono ?_
  rintro e w6 ⟨rfl, hb6⟩
  go_wp2_with fail
  refine (of_c _ _ _ _ _ _).mono ?_
  rintro e w7 ⟨rfl, hb7⟩
  go_wp2_with fail
  refine (of_c _ _ _ _ _ _).mono ?_
  rintro e w8 ⟨rfl, hb8⟩
  have b0 := Lay.new w [.int .u8 0, .string ⟨#[]⟩, .slice none 0 0, .slice none 0 0] 25
  have fz : ∀ q, (w.alloc (.cells #[.int .u8 0, .string ⟨#[]⟩, .slice none 0 0, .slice none 0 0] 25)).frozen? ⟨w.heap.size, q, none⟩ = false := fun q => by rw [World.frozen?_alloc_at _ _ _ _ rfl]
  have l3 := Lay.new w2 [.bool false, .string ⟨#[97]⟩, .slice none 0 0] 50
  have l4 := Lay.new w3 [.bool true, .string ⟨#[120]⟩, .slice none 0 0, .bool false, .string ⟨#[102]⟩, .slice (some ⟨w2.heap.size, 0, none⟩) 1 1] 50
  have l6 := Lay.new w5 [.int .u8 1, .string ⟨#[81]⟩, .slice none 0 0, .slice none 0 0] 25
  have l7 := Lay.new w6 [.int .u8 1, .string ⟨#[80]⟩, .slice (some ⟨w3.heap.size, 0, none⟩) 2 2, .slice none 0 0, .int .u8 3, .string ⟨#[]⟩, .slice none 0 0, .slice (some ⟨w5.heap.size, 0, none⟩) 1 1] 25
  have l8 := Lay.new w7 [.int .u8 4, .string ⟨#[]⟩, .slice none 0 0, .slice (some ⟨w6.heap.size, 0, none⟩) 2 2] 25
  have hz1 := hb1.size
  have hz2 := hb2.size
  have hz3 := hb3.size
  have hz4 := hb4.size
  have hz5 := hb5.size
  have hz6 := hb6.size
  have hz7 := hb7.size
  have hz8 := hb8.size
  simp only [World.size_alloc] at hz1 hz3 hz4 hz6 hz7 hz8 hb1 hb3 hb4 hb6 hb7 hb8
  have al : ∀ (n : Nat) (X W : World) (o : Obj) (V : World), Below n X W → Below (W.heap.size + 1) (W.alloc o) V → n ≤ W.heap.size → Below n X V := fun n X W o V h1 h2 h3 => (h1.trans ((Below.refl n W).alloc h3 o)).trans (h2.mono (by omega))
  have c7 := al _ _ _ _ _ hb7 hb8 (by omega)
  have c6 := al _ _ _ _ _ hb6 c7 (by omega)
  have c5 := al _ _ _ _ _ hb5 c6 (by omega)
  have c4 := hb4.trans (c5.mono (by omega))
  have c3 := al _ _ _ _ _ hb3 c4 (by omega)
  have c2 := al _ _ _ _ _ hb2 c3 (by omega)
  have c1 := hb1.trans (c2.mono (by omega))
  have m8 := l8.below hb8 (by omega)
  have m7 := l7.below c7 (by omega)
  have m6 := l6.below c6 (by omega)
  have m4 := l4.below c4 (by omega)
  have m3 := l3.below c3 (by omega)
  have m0 := b0.below c1 (by omega)
  have f0 := fun q => (c1.frozen (p := ⟨w.heap.size, q, none⟩) (by show w.heap.size < _; omega)).trans (fz q)
  have d0 := m0 0 _ rfl
  have d1 := m0 1 _ rfl
  have d2 := m0 2 _ rfl
  have d3 := m0 3 _ rfl
  have g0 := f0 0
  have g1 := f0 1
  have g2 := f0 2
  have g3 := f0 3
  have hfree : Free w8 w.heap.size 4 := ⟨by omega, fun j hj => by
    rcases j with _ | _ | _ | _ | j
    · exact ⟨by rw [d0]; rfl, g0⟩
    · exact ⟨by rw [d1]; rfl, g1⟩
    · exact ⟨by rw [d2]; rfl, g2⟩
    · exact ⟨by rw [d3]; rfl, g3⟩
    · omega⟩
  have hbw : Below w.heap.size w w8 := ((Below.refl _ _).alloc (Nat.le_refl _) _).trans (c1.mono (by omega))
  obtain ⟨W3, hW3⟩ : ∃ W3, set4w w8 w.heap.size 0 (.int .u8 9) (.string ⟨#[120]⟩) (.slice none 0 0) (.slice (some ⟨w7.heap.size, 0, none⟩) 1 1) = W3 := ⟨_, rfl⟩
  have hs4 := set4 (i := 0) hfree (by omega) (.int .u8 9) (.string ⟨#[120]⟩) (.slice none 0 0) (.slice (some ⟨w7.heap.size, 0, none⟩) 1 1)
  unfold set4w at hW3
  rw [hW3] at hs4
  rw [Nat.zero_add] at hW3
  obtain ⟨_, s2, s3, _, r0, r1, r2, r3⟩ := hs4
  rw [Nat.zero_add] at r1 r2 r3
  rw [hs] at hW3 d0 d1 d2 d3 g0 g1 g2 g3
  have S2 := Lib.hid s2
  have S3 := Lib.hid s3
  have HBW := Lib.hid hbw
  have M8 := Lib.hid m8
  have M7 := Lib.hid m7
  have M6 := Lib.hid m6
  have M4 := Lib.hid m4
  have M3 := Lib.hid m3
  clear al c1 c2 c3 c4 c5 c6 c7 m0 m3 m4 m6 m7 m8 f0 fz b0 l3 l4 l6 l7 l8 hb1 hb2 hb3 hb4 hb5 hb6 hb7 hb8 s2 s3 hbw hfree
  go_wp2_with fail
  rw [hs] at r0 r1 r2 r3
  refine bodyPost_ret (v := .agg #[.int .u8 9, .string ⟨#[120]⟩, .slice none 0 0, .slice (some ⟨w7.heap.size, 0, none⟩) 1 1]) (by simp [results, Tryd.results27, go_sem, r0, r1, r2, r3]) rfl ?_
  have hz9 := S2.out.size
  have q8 : Lay W3 w7.heap.size _ := fun j u hj => (S3.out w7.heap.size (by omega) j).trans (M8.out j u hj)
  have q7 : Lay W3 w6.heap.size _ := fun j u hj => (S3.out w6.heap.size (by omega) j).trans (M7.out j u hj)
  have q6 : Lay W3 w5.heap.size _ := fun j u hj => (S3.out w5.heap.size (by omega) j).trans (M6.out j u hj)
  have q4 : Lay W3 w3.heap.size _ := fun j u hj => (S3.out w3.heap.size (by omega) j).trans (M4.out j u hj)
  have q3 : Lay W3 w2.heap.size _ := fun j u hj => (S3.out w2.heap.size (by omega) j).trans (M3.out j u hj)
  have hT0 : TsAt W3.heap.size W3 0 0 [] := by simp [TsAt]
  have hF0 : FsAt W3.heap.size W3 0 0 [] := by simp [FsAt]
  have eA : TsAt W3.heap.size W3 w2.heap.size 0 [tA] := by
    simp only [tA, TsAt]
    exact ⟨⟨q3 0 _ rfl, q3 1 _ rfl, (by first | decide | (unfold okStr; decide)), none, 0, 0, 0, q3 2 _ rfl, (by first | decide | (unfold okStr; decide)), .inl (by trivial), trivial⟩, trivial⟩
  have eP : TsAt W3.heap.size W3 w3.heap.size 0 [tX, tF] := by
    simp only [tX, tF, TsAt]
    exact ⟨⟨q4 0 _ rfl, q4 1 _ rfl, (by first | decide | (unfold okStr; decide)), none, 0, 0, 0, q4 2 _ rfl, (by first | decide | (unfold okStr; decide)), .inl (by trivial), trivial⟩, ⟨q4 3 _ rfl, q4 4 _ rfl, (by first | decide | (unfold okStr; decide)), _, 1, w2.heap.size, 0, q4 5 _ rfl, (by first | decide | (unfold okStr; decide)), .inr ⟨rfl, by omega⟩, eA⟩, trivial⟩
  have eQ : FsAt W3.heap.size W3 w5.heap.size 0 [fQ] := by
    simp only [fQ, FsAt]
    exact ⟨⟨q6 0 _ rfl, (by first | decide | (unfold okStr; decide)), q6 1 _ rfl, (by first | decide | (unfold okStr; decide)), ⟨none, 0, 0, 0, q6 2 _ rfl, (by first | decide | (unfold okStr; decide)), .inl (by trivial), hT0⟩, none, 0, 0, 0, q6 3 _ rfl, (by first | decide | (unfold okStr; decide)), .inl (by trivial), trivial⟩, trivial⟩
  have eN : FsAt W3.heap.size W3 w6.heap.size 0 [fP, fN] := by
    simp only [fP, fN, FsAt]
    exact ⟨⟨q7 0 _ rfl, (by first | decide | (unfold okStr; decide)), q7 1 _ rfl, (by first | decide | (unfold okStr; decide)), ⟨_, 2, w3.heap.size, 0, q7 2 _ rfl, (by first | decide | (unfold okStr; decide)), .inr ⟨rfl, by omega⟩, eP⟩, none, 0, 0, 0, q7 3 _ rfl, (by first | decide | (unfold okStr; decide)), .inl (by trivial), trivial⟩,
      ⟨q7 4 _ rfl, (by first | decide | (unfold okStr; decide)), q7 5 _ rfl, (by first | decide | (unfold okStr; decide)), ⟨none, 0, 0, 0, q7 6 _ rfl, (by first | decide | (unfold okStr; decide)), .inl (by trivial), hT0⟩, _, 1, w5.heap.size, 0, q7 7 _ rfl, (by first | decide | (unfold okStr; decide)), .inr ⟨rfl, by omega⟩, eQ⟩, trivial⟩
  have eE : FsAt W3.heap.size W3 w7.heap.size 0 [fA] := by
    simp only [fA, FsAt]
    exact ⟨⟨q8 0 _ rfl, (by first | decide | (unfold okStr; decide)), q8 1 _ rfl, (by first | decide | (unfold okStr; decide)), ⟨none, 0, 0, 0, q8 2 _ rfl, (by first | decide | (unfold okStr; decide)), .inl (by trivial), hT0⟩, _, 2, w6.heap.size, 0, q8 3 _ rfl, (by first | decide | (unfold okStr; decide)), .inr ⟨rfl, by omega⟩, eN⟩, trivial⟩
  exact ⟨_, _, _, _, rfl, ⟨rfl, (by first | decide | (unfold okStr; decide)), rfl, (by first | decide | (unfold okStr; decide)), ⟨none, 0, 0, 0, rfl, (by first | decide | (unfold okStr; decide)), .inl (by trivial), hT0⟩, ⟨_, 1, w7.heap.size, 0, rfl, (by first | decide | (unfold okStr; decide)), .inr ⟨rfl, by omega⟩, eE⟩⟩, HBW.out.trans S2.out⟩
end Go.Proofs.YtnadjkofjgpabaaDoor.Fm
