/-
  The contract of needed: which part would be read as something else without brackets.
-/
import Derived.Test.YtdapnjnmhkdnpaaDoorFtBasic
import Derived.Test.YtdapnjnmhkdnpaaDoorFtSigns
namespace Go.Proofs.YtdapnjnmhkdnpaaDoor.Fb
open Go Go.RowKit Go.Shelf Go.Proofs.YtdapnjnmhkdnpaaDoor.Fm Go.Proofs.YtdapnjnmhkdnpaaDoor.Ft
set_option linter.unusedVariables false
set_option linter.unusedSimpArgs false
theorem four_set (U : World) (A : Nat) (v0 v1 v2 v3 : Value) (h2 : (U.cell? ⟨A, 2, none⟩).isSome = true) (h3 : (U.cell? ⟨A, 3, none⟩).isSome = true) :
    ((((U.setCell ⟨A, 0, none⟩ v0).setCell ⟨A, 1, none⟩ v1).setCell ⟨A, 2, none⟩ v2).setCell ⟨A, 3, none⟩ v3).cell? ⟨A, 2, none⟩ = some v2 ∧ ((((U.setCell ⟨A, 0, none⟩ v0).setCell ⟨A, 1, none⟩ v1).setCell ⟨A, 2, none⟩ v2).setCell ⟨A, 3, none⟩ v3).cell? ⟨A, 3, none⟩ = some v3 ∧
    (∀ b, b ≠ A → ((((U.setCell ⟨A, 0, none⟩ v0).setCell ⟨A, 1, none⟩ v1).setCell ⟨A, 2, none⟩ v2).setCell ⟨A, 3, none⟩ v3).heap[b]? = U.heap[b]?) ∧ ∀ n, n ≤ A → Below n U ((((U.setCell ⟨A, 0, none⟩ v0).setCell ⟨A, 1, none⟩ v1).setCell ⟨A, 2, none⟩ v2).setCell ⟨A, 3, none⟩ v3) := by
  have ne : ∀ p q : Nat, p ≠ q → (⟨A, p, none⟩ : Addr) ≠ ⟨A, q, none⟩ := fun p q h e => h (by injection e)
  refine ⟨?_, ?_, fun b hb => ?_, fun n hn => ((((Below.refl _ _).setCell (p := ⟨A, 0, none⟩) hn _).setCell (p := ⟨A, 1, none⟩) hn _).setCell (p := ⟨A, 2, none⟩) hn _).setCell (p := ⟨A, 3, none⟩) hn _⟩
  · rw [World.cell?_setCell_other _ _ _ _ (ne _ _ (by decide))]
    refine World.cell?_setCell_same' _ _ _ ?_
    rwa [World.cell?_setCell_other _ _ _ _ (ne _ _ (by decide)), World.cell?_setCell_other _ _ _ _ (ne _ _ (by decide))]
  · refine World.cell?_setCell_same' _ _ _ ?_
    rwa [World.cell?_setCell_other _ _ _ _ (ne _ _ (by decide)), World.cell?_setCell_other _ _ _ _ (ne _ _ (by decide)), World.cell?_setCell_other _ _ _ _ (ne _ _ (by decide))]
  · rw [Below.heap_setCell _ ⟨A, 3, none⟩ _ _ hb, Below.heap_setCell _ ⟨A, 2, none⟩ _ _ hb, Below.heap_setCell _ ⟨A, 1, none⟩ _ _ hb, Below.heap_setCell _ ⟨A, 0, none⟩ _ _ hb]
set_option maxHeartbeats 2000000 in
/-- needed, at a part. -/
theorem needed_c (f : Fo) (v0 v1 v2 v3 : Value) (dn i : Nat) (w : World) (hf : FoV dn w v0 v1 v2 v3 f) (hd : dn ≤ w.heap.size) (hT : STab w) (hi : i < f.sub.length) (k j : Nat) (hk : f.sub[i].op = (k : Int)) (h1 : 1 ≤ k) (h2 : k < 17) (hj : f.op = (j : Int)) (j1 : 1 ≤ j) (j2 : j < 17) :
    Calls Tryd.prog 41 #[.agg #[v0, v1, v2, v3], .int .i64 (i : Int)] w fun e w' => e = .returned (.bool (needB f i f.sub[i])) ∧ Below w.heap.size w w' := by
  have hb0 : Below w.heap.size w (w.alloc (.cells #[v0, v1, v2, v3] 25)) := (Below.refl _ _).alloc (Nat.le_refl _) _
  have hT2 := hT.keep (hb0.block _ hT.1) hb0.size
  obtain ⟨rfl, _, rfl, _, hA, hS⟩ := hf
  obtain ⟨⟨a1, k1, rfl⟩, _⟩ := hA.form
  obtain ⟨⟨a2, k2, rfl⟩, hl⟩ := hS.form
  obtain ⟨_, b, o, rfl, hbn, u0, u1, u2, u3, c0, c1, c2, c3, hu⟩ := (hS.below hb0 hd).get hi
  have e0 := hu.op
  rw [hk] at e0
  subst e0
  obtain ⟨s0, s1, s2, s3⟩ := hT2.2 k h1 h2
  obtain ⟨t0, t1, t2, t3⟩ := hT2.2 j j1 j2
  have hz := hT2.1
  have n0 : (0 : Int) ≤ (i : Int) := by omega
  have n1 : (i : Int) < (f.sub.length : Int) := by omega
  have n2 : (k : Int) < 17 := by omega
  have n3 : (j : Int) < 17 := by omega
  have HN := Lib.hid (show needB f i f.sub[i] = if str j ≠ str k then decide (str k < str j) else frR j == (i == 0) by unfold needB; rw [hk, hj])
  rw [hj] at hb0 c0 c1 c2 c3 s0 s1 s2 s3 t0 t1 t2 t3 hz ⊢
  clear hA hS hu hT hT2 hk hj
  generalize str (k : Int) = x at *
  generalize str (j : Int) = y at *
  generalize frR (j : Int) = fr at *
  have h0 : ((i : Int) == 0) = (i == 0) := by rw [Bool.eq_iff_iff, beq_iff_eq, beq_iff_eq]; omega
  by_cases he : y = x
  · have HE := Lib.hid (HN.out.trans (if_neg (fun h => h he)))
    have d1 : ((y : Int) != (x : Int)) = false := by rw [he]; exact bne_self_eq_false _
    clear he HN
    go_enter Tryd.func41, Tryd.ntmps41
    go_wp2_with fail
    have bx : ∀ q, (w.alloc (.cells #[.int .u8 (j : Int), .string f.n, .slice a1 f.args.length k1, .slice (some ⟨b, o, none⟩) f.sub.length k2] 25)).cell? ⟨w.heap.size, q, none⟩ = (#[.int .u8 (j : Int), .string f.n, .slice a1 f.args.length k1, .slice (some ⟨b, o, none⟩) f.sub.length k2] : Array Value)[q]? := fun q => World.cell?_alloc_at _ _ _ _ rfl
    have bl : w.heap.size < (w.alloc (.cells #[.int .u8 (j : Int), .string f.n, .slice a1 f.args.length k1, .slice (some ⟨b, o, none⟩) f.sub.length k2] 25)).heap.size := by simp
    have hbX : b < (w.alloc (.cells #[.int .u8 (j : Int), .string f.n, .slice a1 f.args.length k1, .slice (some ⟨b, o, none⟩) f.sub.length k2] 25)).heap.size := by simp; omega
    generalize (w.alloc (.cells #[.int .u8 (j : Int), .string f.n, .slice a1 f.args.length k1, .slice (some ⟨b, o, none⟩) f.sub.length k2] 25)) = X at *
    have hb := Below.drew (Below.refl X.heap.size X)
    have c0 := (hb.cell (p := ⟨b, o + i * 4, none⟩) hbX).trans c0
    have bx0 := (hb.cell (p := ⟨w.heap.size, 0, none⟩) bl).trans (bx 0)
    have bx3 := (hb.cell (p := ⟨w.heap.size, 3, none⟩) bl).trans (bx 3)
    have s0 := (hb.cell (p := ⟨0, _, none⟩) hz).trans s0
    have s1 := (hb.cell (p := ⟨0, _, none⟩) hz).trans s1
    have s2 := (hb.cell (p := ⟨0, _, none⟩) hz).trans s2
    have s3 := (hb.cell (p := ⟨0, _, none⟩) hz).trans s3
    have t0 := (hb.cell (p := ⟨0, _, none⟩) hz).trans t0
    have t1 := (hb.cell (p := ⟨0, _, none⟩) hz).trans t1
    have t2 := (hb.cell (p := ⟨0, _, none⟩) hz).trans t2
    have t3 := (hb.cell (p := ⟨0, _, none⟩) hz).trans t3
    have hbl : w.heap.size < X.drew.heap.size := Nat.lt_of_lt_of_le bl hb.size
    have hbb : b < X.drew.heap.size := Nat.lt_of_lt_of_le hbX hb.size
    have hzz : 0 < X.drew.heap.size := Nat.lt_of_lt_of_le hz hb.size
    have HBZ := Lib.hid (hb0.trans (hb.mono hb0.size))
    generalize hwd : X.drew = Z at *
    clear bx bl hbX hz hb hb0 c1 c2 c3
    obtain ⟨NZ, hNZ⟩ : ∃ N, Z.heap.size = N := ⟨_, rfl⟩
    rw [hNZ] at hbl hbb hzz
    have HNZ := Lib.hid hNZ
    have HWN := Lib.hid (show w.heap.size ≤ NZ by rw [← hNZ]; exact HBZ.out.size)
    refine wp_region_S (fun w' => Below NZ Z w') [] 16 #[false, false, false, false, false, false, false, false, false, false, false, false, false, false, false, false] (by kernel_rfl) (by kernel_rfl) (by kernel_rfl) (by rw [hwd]; exact Below.refl _ _) (fun hHeld => ?_)
    clear hNZ
    rw [hwd] at hHeld ⊢
    clear hwd
    refine wpAnyS_take (i := 0) (oi := ⟨some 7, _, _, _, _, _⟩) (v := .pointer (some ⟨w.heap.size, 0, none⟩)) rfl (by kernel_rfl) (by kernel_rfl) (by kernel_rfl) (by kernel_rfl) (fun _ _ _ h => Norm.panic h) (Or.inl ⟨by rfl, ?_⟩) (by assumption) ?_
    · intro w' hSw
      have hb' : Below NZ Z w' := hSw
      go_simp
    simp only [Act.put, List.setIfInBounds_toArray, List.set_cons_zero, List.set_cons_succ]
    refine wpAnyS_take (i := 1) (oi := ⟨some 8, _, _, _, _, _⟩) (v := .int .u8 (j : Int)) rfl (by kernel_rfl) (by kernel_rfl) (by kernel_rfl) (by kernel_rfl) (fun _ _ _ h => Norm.panic h) (Or.inl ⟨by rfl, ?_⟩) (by assumption) ?_
    · intro w' hSw
      have hb' : Below NZ Z w' := hSw
      have e0 := (hb'.cell (p := ⟨w.heap.size, 0, none⟩) hbl).trans bx0
      go_simp
    simp only [Act.put, List.setIfInBounds_toArray, List.set_cons_zero, List.set_cons_succ]
    refine wpAnyS_take (i := 2) (oi := ⟨some 9, _, _, _, _, _⟩) (v := .pointer (some ⟨0, j * 4, none⟩)) rfl (by kernel_rfl) (by kernel_rfl) (by kernel_rfl) (by kernel_rfl) (fun _ _ _ h => Norm.panic h) (Or.inl ⟨by rfl, ?_⟩) (by assumption) ?_
    · intro w' hSw
      have hb' : Below NZ Z w' := hSw
      go_simp
    simp only [Act.put, List.setIfInBounds_toArray, List.set_cons_zero, List.set_cons_succ]
    refine wpAnyS_take (i := 3) (oi := ⟨some 10, _, _, _, _, _⟩) (v := .agg #[.string (sgT j), .bool (spW j), .int .i64 (y : Nat), .bool fr]) rfl (by kernel_rfl) (by kernel_rfl) (by kernel_rfl) (by kernel_rfl) (fun _ _ _ h => Norm.panic h) (Or.inl ⟨by rfl, ?_⟩) (by assumption) ?_
    · intro w' hSw
      have hb' : Below NZ Z w' := hSw
      have e0 := (hb'.cell (p := ⟨0, _, none⟩) hzz).trans t0
      have e1 := (hb'.cell (p := ⟨0, _, none⟩) hzz).trans t1
      have e2 := (hb'.cell (p := ⟨0, _, none⟩) hzz).trans t2
      have e3 := (hb'.cell (p := ⟨0, _, none⟩) hzz).trans t3
      go_simp
    simp only [Act.put, List.setIfInBounds_toArray, List.set_cons_zero, List.set_cons_succ]
    refine wpAnyS_take (i := 4) (oi := ⟨some 11, _, _, _, _, _⟩) (v := .pointer (some ⟨w.heap.size, 3, none⟩)) rfl (by kernel_rfl) (by kernel_rfl) (by kernel_rfl) (by kernel_rfl) (fun _ _ _ h => Norm.panic h) (Or.inl ⟨by rfl, ?_⟩) (by assumption) ?_
    · intro w' hSw
      have hb' : Below NZ Z w' := hSw
      go_simp
    simp only [Act.put, List.setIfInBounds_toArray, List.set_cons_zero, List.set_cons_succ]
    refine wpAnyS_take (i := 5) (oi := ⟨some 12, _, _, _, _, _⟩) (v := .slice (some ⟨b, o, none⟩) f.sub.length k2) rfl (by kernel_rfl) (by kernel_rfl) (by kernel_rfl) (by kernel_rfl) (fun _ _ _ h => Norm.panic h) (Or.inl ⟨by rfl, ?_⟩) (by assumption) ?_
    · intro w' hSw
      have hb' : Below NZ Z w' := hSw
      have e0 := (hb'.cell (p := ⟨w.heap.size, 3, none⟩) hbl).trans bx3
      go_simp
    simp only [Act.put, List.setIfInBounds_toArray, List.set_cons_zero, List.set_cons_succ]
    refine wpAnyS_take (i := 6) (oi := ⟨some 13, _, _, _, _, _⟩) (v := .int .i64 (i : Int)) rfl (by kernel_rfl) (by kernel_rfl) (by kernel_rfl) (by kernel_rfl) (fun _ _ _ h => Norm.panic h) (Or.inl ⟨by rfl, ?_⟩) (by assumption) ?_
    · intro w' hSw
      have hb' : Below NZ Z w' := hSw
      go_simp
    simp only [Act.put, List.setIfInBounds_toArray, List.set_cons_zero, List.set_cons_succ]
    refine wpAnyS_take (i := 7) (oi := ⟨some 14, _, _, _, _, _⟩) (v := .pointer (some ⟨b, o + i * 4, none⟩)) rfl (by kernel_rfl) (by kernel_rfl) (by kernel_rfl) (by kernel_rfl) (fun _ _ _ h => Norm.panic h) (Or.inl ⟨by rfl, ?_⟩) (by assumption) ?_
    · intro w' hSw
      have hb' : Below NZ Z w' := hSw
      go_simp
    simp only [Act.put, List.setIfInBounds_toArray, List.set_cons_zero, List.set_cons_succ]
    refine wpAnyS_take (i := 8) (oi := ⟨some 15, _, _, _, _, _⟩) (v := .pointer (some ⟨b, o + i * 4, none⟩)) rfl (by kernel_rfl) (by kernel_rfl) (by kernel_rfl) (by kernel_rfl) (fun _ _ _ h => Norm.panic h) (Or.inl ⟨by rfl, ?_⟩) (by assumption) ?_
    · intro w' hSw
      have hb' : Below NZ Z w' := hSw
      go_simp
    simp only [Act.put, List.setIfInBounds_toArray, List.set_cons_zero, List.set_cons_succ]
    refine wpAnyS_take (i := 9) (oi := ⟨some 16, _, _, _, _, _⟩) (v := .int .u8 (k : Int)) rfl (by kernel_rfl) (by kernel_rfl) (by kernel_rfl) (by kernel_rfl) (fun _ _ _ h => Norm.panic h) (Or.inl ⟨by rfl, ?_⟩) (by assumption) ?_
    · intro w' hSw
      have hb' : Below NZ Z w' := hSw
      have e0 := (hb'.cell (p := ⟨b, _, none⟩) hbb).trans c0
      go_simp
    simp only [Act.put, List.setIfInBounds_toArray, List.set_cons_zero, List.set_cons_succ]
    refine wpAnyS_take (i := 10) (oi := ⟨some 17, _, _, _, _, _⟩) (v := .pointer (some ⟨0, k * 4, none⟩)) rfl (by kernel_rfl) (by kernel_rfl) (by kernel_rfl) (by kernel_rfl) (fun _ _ _ h => Norm.panic h) (Or.inl ⟨by rfl, ?_⟩) (by assumption) ?_
    · intro w' hSw
      have hb' : Below NZ Z w' := hSw
      go_simp
    simp only [Act.put, List.setIfInBounds_toArray, List.set_cons_zero, List.set_cons_succ]
    refine wpAnyS_take (i := 11) (oi := ⟨some 18, _, _, _, _, _⟩) (v := .agg #[.string (sgT k), .bool (spW k), .int .i64 (x : Nat), .bool (frR (k : Int))]) rfl (by kernel_rfl) (by kernel_rfl) (by kernel_rfl) (by kernel_rfl) (fun _ _ _ h => Norm.panic h) (Or.inl ⟨by rfl, ?_⟩) (by assumption) ?_
    · intro w' hSw
      have hb' : Below NZ Z w' := hSw
      have e0 := (hb'.cell (p := ⟨0, _, none⟩) hzz).trans s0
      have e1 := (hb'.cell (p := ⟨0, _, none⟩) hzz).trans s1
      have e2 := (hb'.cell (p := ⟨0, _, none⟩) hzz).trans s2
      have e3 := (hb'.cell (p := ⟨0, _, none⟩) hzz).trans s3
      go_simp
    simp only [Act.put, List.setIfInBounds_toArray, List.set_cons_zero, List.set_cons_succ]
    clear hHeld s0 s1 s2 s3 t0 t1 t2 t3 c0 bx0 bx3 hbl hbb hzz
    refine wpAnyS_two (i := 12) (j := 13) (oi := ⟨some 5, _, _, _, _, _⟩) (oj := ⟨some 6, _, _, _, _, _⟩) rfl rfl (by kernel_rfl) (by rfl) (by rfl) (fun K hK => ?hA) (fun K hK => ?hB)
    case' hA =>
      go_simp
      refine hK _ _ (fun _ => (Below.refl _ _).alloc (Nat.le_of_eq HNZ.out.symm) _) ?_
      clear hK K
      simp only [Act.put, List.setIfInBounds_toArray, List.set_cons_zero, List.set_cons_succ]
      refine wpAnyS_one (i := 13) (oi := ⟨some 6, _, _, _, _, _⟩) rfl (by kernel_rfl) (by rfl) (fun K hK => ?_)
      go_simp
      have a0 : ((Z.alloc (.cells #[.string ⟨#[]⟩, .bool false, .int .i64 0, .bool false] 88)).alloc (.cells #[.string ⟨#[]⟩, .bool false, .int .i64 0, .bool false] 88)).cell? ⟨Z.heap.size, 0, none⟩ = some (.string ⟨#[]⟩) := by rw [((Below.refl (Z.heap.size + 1) (Z.alloc (.cells #[.string ⟨#[]⟩, .bool false, .int .i64 0, .bool false] 88))).alloc (by simp) _).cell (p := ⟨Z.heap.size, 0, none⟩) (by show Z.heap.size < _; omega), World.cell?_alloc_at _ _ _ _ rfl]; rfl
      have fa0 : ((Z.alloc (.cells #[.string ⟨#[]⟩, .bool false, .int .i64 0, .bool false] 88)).alloc (.cells #[.string ⟨#[]⟩, .bool false, .int .i64 0, .bool false] 88)).frozen? ⟨Z.heap.size, 0, none⟩ = false := by rw [((Below.refl (Z.heap.size + 1) (Z.alloc (.cells #[.string ⟨#[]⟩, .bool false, .int .i64 0, .bool false] 88))).alloc (by simp) _).frozen (p := ⟨Z.heap.size, 0, none⟩) (by show Z.heap.size < _; omega), World.frozen?_alloc_at _ _ _ _ rfl]
      have a1 : ((Z.alloc (.cells #[.string ⟨#[]⟩, .bool false, .int .i64 0, .bool false] 88)).alloc (.cells #[.string ⟨#[]⟩, .bool false, .int .i64 0, .bool false] 88)).cell? ⟨Z.heap.size, 1, none⟩ = some (.bool false) := by rw [((Below.refl (Z.heap.size + 1) (Z.alloc (.cells #[.string ⟨#[]⟩, .bool false, .int .i64 0, .bool false] 88))).alloc (by simp) _).cell (p := ⟨Z.heap.size, 1, none⟩) (by show Z.heap.size < _; omega), World.cell?_alloc_at _ _ _ _ rfl]; rfl
      have fa1 : ((Z.alloc (.cells #[.string ⟨#[]⟩, .bool false, .int .i64 0, .bool false] 88)).alloc (.cells #[.string ⟨#[]⟩, .bool false, .int .i64 0, .bool false] 88)).frozen? ⟨Z.heap.size, 1, none⟩ = false := by rw [((Below.refl (Z.heap.size + 1) (Z.alloc (.cells #[.string ⟨#[]⟩, .bool false, .int .i64 0, .bool false] 88))).alloc (by simp) _).frozen (p := ⟨Z.heap.size, 1, none⟩) (by show Z.heap.size < _; omega), World.frozen?_alloc_at _ _ _ _ rfl]
      have a2 : ((Z.alloc (.cells #[.string ⟨#[]⟩, .bool false, .int .i64 0, .bool false] 88)).alloc (.cells #[.string ⟨#[]⟩, .bool false, .int .i64 0, .bool false] 88)).cell? ⟨Z.heap.size, 2, none⟩ = some (.int .i64 0) := by rw [((Below.refl (Z.heap.size + 1) (Z.alloc (.cells #[.string ⟨#[]⟩, .bool false, .int .i64 0, .bool false] 88))).alloc (by simp) _).cell (p := ⟨Z.heap.size, 2, none⟩) (by show Z.heap.size < _; omega), World.cell?_alloc_at _ _ _ _ rfl]; rfl
      have fa2 : ((Z.alloc (.cells #[.string ⟨#[]⟩, .bool false, .int .i64 0, .bool false] 88)).alloc (.cells #[.string ⟨#[]⟩, .bool false, .int .i64 0, .bool false] 88)).frozen? ⟨Z.heap.size, 2, none⟩ = false := by rw [((Below.refl (Z.heap.size + 1) (Z.alloc (.cells #[.string ⟨#[]⟩, .bool false, .int .i64 0, .bool false] 88))).alloc (by simp) _).frozen (p := ⟨Z.heap.size, 2, none⟩) (by show Z.heap.size < _; omega), World.frozen?_alloc_at _ _ _ _ rfl]
      have a3 : ((Z.alloc (.cells #[.string ⟨#[]⟩, .bool false, .int .i64 0, .bool false] 88)).alloc (.cells #[.string ⟨#[]⟩, .bool false, .int .i64 0, .bool false] 88)).cell? ⟨Z.heap.size, 3, none⟩ = some (.bool false) := by rw [((Below.refl (Z.heap.size + 1) (Z.alloc (.cells #[.string ⟨#[]⟩, .bool false, .int .i64 0, .bool false] 88))).alloc (by simp) _).cell (p := ⟨Z.heap.size, 3, none⟩) (by show Z.heap.size < _; omega), World.cell?_alloc_at _ _ _ _ rfl]; rfl
      have fa3 : ((Z.alloc (.cells #[.string ⟨#[]⟩, .bool false, .int .i64 0, .bool false] 88)).alloc (.cells #[.string ⟨#[]⟩, .bool false, .int .i64 0, .bool false] 88)).frozen? ⟨Z.heap.size, 3, none⟩ = false := by rw [((Below.refl (Z.heap.size + 1) (Z.alloc (.cells #[.string ⟨#[]⟩, .bool false, .int .i64 0, .bool false] 88))).alloc (by simp) _).frozen (p := ⟨Z.heap.size, 3, none⟩) (by show Z.heap.size < _; omega), World.frozen?_alloc_at _ _ _ _ rfl]
      have c0 : ((Z.alloc (.cells #[.string ⟨#[]⟩, .bool false, .int .i64 0, .bool false] 88)).alloc (.cells #[.string ⟨#[]⟩, .bool false, .int .i64 0, .bool false] 88)).cell? ⟨Z.heap.size + 1, 0, none⟩ = some (.string ⟨#[]⟩) := by rw [World.cell?_alloc_at _ _ _ _ (by simp)]; rfl
      have fc0 : ((Z.alloc (.cells #[.string ⟨#[]⟩, .bool false, .int .i64 0, .bool false] 88)).alloc (.cells #[.string ⟨#[]⟩, .bool false, .int .i64 0, .bool false] 88)).frozen? ⟨Z.heap.size + 1, 0, none⟩ = false := by rw [World.frozen?_alloc_at _ _ _ _ (by simp)]
      have c1 : ((Z.alloc (.cells #[.string ⟨#[]⟩, .bool false, .int .i64 0, .bool false] 88)).alloc (.cells #[.string ⟨#[]⟩, .bool false, .int .i64 0, .bool false] 88)).cell? ⟨Z.heap.size + 1, 1, none⟩ = some (.bool false) := by rw [World.cell?_alloc_at _ _ _ _ (by simp)]; rfl
      have fc1 : ((Z.alloc (.cells #[.string ⟨#[]⟩, .bool false, .int .i64 0, .bool false] 88)).alloc (.cells #[.string ⟨#[]⟩, .bool false, .int .i64 0, .bool false] 88)).frozen? ⟨Z.heap.size + 1, 1, none⟩ = false := by rw [World.frozen?_alloc_at _ _ _ _ (by simp)]
      have c2 : ((Z.alloc (.cells #[.string ⟨#[]⟩, .bool false, .int .i64 0, .bool false] 88)).alloc (.cells #[.string ⟨#[]⟩, .bool false, .int .i64 0, .bool false] 88)).cell? ⟨Z.heap.size + 1, 2, none⟩ = some (.int .i64 0) := by rw [World.cell?_alloc_at _ _ _ _ (by simp)]; rfl
      have fc2 : ((Z.alloc (.cells #[.string ⟨#[]⟩, .bool false, .int .i64 0, .bool false] 88)).alloc (.cells #[.string ⟨#[]⟩, .bool false, .int .i64 0, .bool false] 88)).frozen? ⟨Z.heap.size + 1, 2, none⟩ = false := by rw [World.frozen?_alloc_at _ _ _ _ (by simp)]
      have c3 : ((Z.alloc (.cells #[.string ⟨#[]⟩, .bool false, .int .i64 0, .bool false] 88)).alloc (.cells #[.string ⟨#[]⟩, .bool false, .int .i64 0, .bool false] 88)).cell? ⟨Z.heap.size + 1, 3, none⟩ = some (.bool false) := by rw [World.cell?_alloc_at _ _ _ _ (by simp)]; rfl
      have fc3 : ((Z.alloc (.cells #[.string ⟨#[]⟩, .bool false, .int .i64 0, .bool false] 88)).alloc (.cells #[.string ⟨#[]⟩, .bool false, .int .i64 0, .bool false] 88)).frozen? ⟨Z.heap.size + 1, 3, none⟩ = false := by rw [World.frozen?_alloc_at _ _ _ _ (by simp)]
      have hSU : Below NZ Z ((Z.alloc (.cells #[.string ⟨#[]⟩, .bool false, .int .i64 0, .bool false] 88)).alloc (.cells #[.string ⟨#[]⟩, .bool false, .int .i64 0, .bool false] 88)) := ((Below.refl _ _).alloc (Nat.le_of_eq HNZ.out.symm) _).alloc (by rw [World.size_alloc, HNZ.out]; omega) _
      generalize ((Z.alloc (.cells #[.string ⟨#[]⟩, .bool false, .int .i64 0, .bool false] 88)).alloc (.cells #[.string ⟨#[]⟩, .bool false, .int .i64 0, .bool false] 88)) = U at *
      have HAC := Lib.hid (show Z.heap.size ≠ Z.heap.size + 1 ∧ NZ ≤ Z.heap.size ∧ NZ ≤ Z.heap.size + 1 by rw [HNZ.out]; omega)
      generalize Z.heap.size + 1 = C at *
      generalize Z.heap.size = A at *
      have HSU := Lib.hid hSU
      clear hSU
      refine hK _ _ (fun _ => HSU.out) ?_
      clear hK K
      simp only [Act.put, List.setIfInBounds_toArray, List.set_cons_zero, List.set_cons_succ]
    case' hB =>
      go_simp
      refine hK _ _ (fun _ => (Below.refl _ _).alloc (Nat.le_of_eq HNZ.out.symm) _) ?_
      clear hK K
      simp only [Act.put, List.setIfInBounds_toArray, List.set_cons_zero, List.set_cons_succ]
      refine wpAnyS_one (i := 12) (oi := ⟨some 5, _, _, _, _, _⟩) rfl (by kernel_rfl) (by rfl) (fun K hK => ?_)
      go_simp
      have c0 : ((Z.alloc (.cells #[.string ⟨#[]⟩, .bool false, .int .i64 0, .bool false] 88)).alloc (.cells #[.string ⟨#[]⟩, .bool false, .int .i64 0, .bool false] 88)).cell? ⟨Z.heap.size, 0, none⟩ = some (.string ⟨#[]⟩) := by rw [((Below.refl (Z.heap.size + 1) (Z.alloc (.cells #[.string ⟨#[]⟩, .bool false, .int .i64 0, .bool false] 88))).alloc (by simp) _).cell (p := ⟨Z.heap.size, 0, none⟩) (by show Z.heap.size < _; omega), World.cell?_alloc_at _ _ _ _ rfl]; rfl
      have fc0 : ((Z.alloc (.cells #[.string ⟨#[]⟩, .bool false, .int .i64 0, .bool false] 88)).alloc (.cells #[.string ⟨#[]⟩, .bool false, .int .i64 0, .bool false] 88)).frozen? ⟨Z.heap.size, 0, none⟩ = false := by rw [((Below.refl (Z.heap.size + 1) (Z.alloc (.cells #[.string ⟨#[]⟩, .bool false, .int .i64 0, .bool false] 88))).alloc (by simp) _).frozen (p := ⟨Z.heap.size, 0, none⟩) (by show Z.heap.size < _; omega), World.frozen?_alloc_at _ _ _ _ rfl]
      have c1 : ((Z.alloc (.cells #[.string ⟨#[]⟩, .bool false, .int .i64 0, .bool false] 88)).alloc (.cells #[.string ⟨#[]⟩, .bool false, .int .i64 0, .bool false] 88)).cell? ⟨Z.heap.size, 1, none⟩ = some (.bool false) := by rw [((Below.refl (Z.heap.size + 1) (Z.alloc (.cells #[.string ⟨#[]⟩, .bool false, .int .i64 0, .bool false] 88))).alloc (by simp) _).cell (p := ⟨Z.heap.size, 1, none⟩) (by show Z.heap.size < _; omega), World.cell?_alloc_at _ _ _ _ rfl]; rfl
      have fc1 : ((Z.alloc (.cells #[.string ⟨#[]⟩, .bool false, .int .i64 0, .bool false] 88)).alloc (.cells #[.string ⟨#[]⟩, .bool false, .int .i64 0, .bool false] 88)).frozen? ⟨Z.heap.size, 1, none⟩ = false := by rw [((Below.refl (Z.heap.size + 1) (Z.alloc (.cells #[.string ⟨#[]⟩, .bool false, .int .i64 0, .bool false] 88))).alloc (by simp) _).frozen (p := ⟨Z.heap.size, 1, none⟩) (by show Z.heap.size < _; omega), World.frozen?_alloc_at _ _ _ _ rfl]
      have c2 : ((Z.alloc (.cells #[.string ⟨#[]⟩, .bool false, .int .i64 0, .bool false] 88)).alloc (.cells #[.string ⟨#[]⟩, .bool false, .int .i64 0, .bool false] 88)).cell? ⟨Z.heap.size, 2, none⟩ = some (.int .i64 0) := by rw [((Below.refl (Z.heap.size + 1) (Z.alloc (.cells #[.string ⟨#[]⟩, .bool false, .int .i64 0, .bool false] 88))).alloc (by simp) _).cell (p := ⟨Z.heap.size, 2, none⟩) (by show Z.heap.size < _; omega), World.cell?_alloc_at _ _ _ _ rfl]; rfl
      have fc2 : ((Z.alloc (.cells #[.string ⟨#[]⟩, .bool false, .int .i64 0, .bool false] 88)).alloc (.cells #[.string ⟨#[]⟩, .bool false, .int .i64 0, .bool false] 88)).frozen? ⟨Z.heap.size, 2, none⟩ = false := by rw [((Below.refl (Z.heap.size + 1) (Z.alloc (.cells #[.string ⟨#[]⟩, .bool false, .int .i64 0, .bool false] 88))).alloc (by simp) _).frozen (p := ⟨Z.heap.size, 2, none⟩) (by show Z.heap.size < _; omega), World.frozen?_alloc_at _ _ _ _ rfl]
      have c3 : ((Z.alloc (.cells #[.string ⟨#[]⟩, .bool false, .int .i64 0, .bool false] 88)).alloc (.cells #[.string ⟨#[]⟩, .bool false, .int .i64 0, .bool false] 88)).cell? ⟨Z.heap.size, 3, none⟩ = some (.bool false) := by rw [((Below.refl (Z.heap.size + 1) (Z.alloc (.cells #[.string ⟨#[]⟩, .bool false, .int .i64 0, .bool false] 88))).alloc (by simp) _).cell (p := ⟨Z.heap.size, 3, none⟩) (by show Z.heap.size < _; omega), World.cell?_alloc_at _ _ _ _ rfl]; rfl
      have fc3 : ((Z.alloc (.cells #[.string ⟨#[]⟩, .bool false, .int .i64 0, .bool false] 88)).alloc (.cells #[.string ⟨#[]⟩, .bool false, .int .i64 0, .bool false] 88)).frozen? ⟨Z.heap.size, 3, none⟩ = false := by rw [((Below.refl (Z.heap.size + 1) (Z.alloc (.cells #[.string ⟨#[]⟩, .bool false, .int .i64 0, .bool false] 88))).alloc (by simp) _).frozen (p := ⟨Z.heap.size, 3, none⟩) (by show Z.heap.size < _; omega), World.frozen?_alloc_at _ _ _ _ rfl]
      have a0 : ((Z.alloc (.cells #[.string ⟨#[]⟩, .bool false, .int .i64 0, .bool false] 88)).alloc (.cells #[.string ⟨#[]⟩, .bool false, .int .i64 0, .bool false] 88)).cell? ⟨Z.heap.size + 1, 0, none⟩ = some (.string ⟨#[]⟩) := by rw [World.cell?_alloc_at _ _ _ _ (by simp)]; rfl
      have fa0 : ((Z.alloc (.cells #[.string ⟨#[]⟩, .bool false, .int .i64 0, .bool false] 88)).alloc (.cells #[.string ⟨#[]⟩, .bool false, .int .i64 0, .bool false] 88)).frozen? ⟨Z.heap.size + 1, 0, none⟩ = false := by rw [World.frozen?_alloc_at _ _ _ _ (by simp)]
      have a1 : ((Z.alloc (.cells #[.string ⟨#[]⟩, .bool false, .int .i64 0, .bool false] 88)).alloc (.cells #[.string ⟨#[]⟩, .bool false, .int .i64 0, .bool false] 88)).cell? ⟨Z.heap.size + 1, 1, none⟩ = some (.bool false) := by rw [World.cell?_alloc_at _ _ _ _ (by simp)]; rfl
      have fa1 : ((Z.alloc (.cells #[.string ⟨#[]⟩, .bool false, .int .i64 0, .bool false] 88)).alloc (.cells #[.string ⟨#[]⟩, .bool false, .int .i64 0, .bool false] 88)).frozen? ⟨Z.heap.size + 1, 1, none⟩ = false := by rw [World.frozen?_alloc_at _ _ _ _ (by simp)]
      have a2 : ((Z.alloc (.cells #[.string ⟨#[]⟩, .bool false, .int .i64 0, .bool false] 88)).alloc (.cells #[.string ⟨#[]⟩, .bool false, .int .i64 0, .bool false] 88)).cell? ⟨Z.heap.size + 1, 2, none⟩ = some (.int .i64 0) := by rw [World.cell?_alloc_at _ _ _ _ (by simp)]; rfl
      have fa2 : ((Z.alloc (.cells #[.string ⟨#[]⟩, .bool false, .int .i64 0, .bool false] 88)).alloc (.cells #[.string ⟨#[]⟩, .bool false, .int .i64 0, .bool false] 88)).frozen? ⟨Z.heap.size + 1, 2, none⟩ = false := by rw [World.frozen?_alloc_at _ _ _ _ (by simp)]
      have a3 : ((Z.alloc (.cells #[.string ⟨#[]⟩, .bool false, .int .i64 0, .bool false] 88)).alloc (.cells #[.string ⟨#[]⟩, .bool false, .int .i64 0, .bool false] 88)).cell? ⟨Z.heap.size + 1, 3, none⟩ = some (.bool false) := by rw [World.cell?_alloc_at _ _ _ _ (by simp)]; rfl
      have fa3 : ((Z.alloc (.cells #[.string ⟨#[]⟩, .bool false, .int .i64 0, .bool false] 88)).alloc (.cells #[.string ⟨#[]⟩, .bool false, .int .i64 0, .bool false] 88)).frozen? ⟨Z.heap.size + 1, 3, none⟩ = false := by rw [World.frozen?_alloc_at _ _ _ _ (by simp)]
      have hSU : Below NZ Z ((Z.alloc (.cells #[.string ⟨#[]⟩, .bool false, .int .i64 0, .bool false] 88)).alloc (.cells #[.string ⟨#[]⟩, .bool false, .int .i64 0, .bool false] 88)) := ((Below.refl _ _).alloc (Nat.le_of_eq HNZ.out.symm) _).alloc (by rw [World.size_alloc, HNZ.out]; omega) _
      generalize ((Z.alloc (.cells #[.string ⟨#[]⟩, .bool false, .int .i64 0, .bool false] 88)).alloc (.cells #[.string ⟨#[]⟩, .bool false, .int .i64 0, .bool false] 88)) = U at *
      have HAC := Lib.hid (show Z.heap.size + 1 ≠ Z.heap.size ∧ NZ ≤ Z.heap.size + 1 ∧ NZ ≤ Z.heap.size by rw [HNZ.out]; omega)
      generalize Z.heap.size + 1 = A at *
      generalize Z.heap.size = C at *
      have HSU := Lib.hid hSU
      clear hSU
      refine hK _ _ (fun _ => HSU.out) ?_
      clear hK K
      simp only [Act.put, List.setIfInBounds_toArray, List.set_cons_zero, List.set_cons_succ]
    all_goals
      refine wpAnyS_one (i := 14) (oi := ⟨none, _, _, _, _, _⟩) rfl (by kernel_rfl) (by rfl) (fun K hK => ?_)
      go_simp
      have ha := four_set U A (.string (sgT j)) (.bool (spW j)) (.int .i64 (y : Nat)) (.bool fr) (by rw [a2]; rfl) (by rw [a3]; rfl)
      generalize ((((U.setCell ⟨A, 0, none⟩ (.string (sgT j))).setCell ⟨A, 1, none⟩ (.bool (spW j))).setCell ⟨A, 2, none⟩ (.int .i64 (y : Nat))).setCell ⟨A, 3, none⟩ (.bool fr)) = V at ha ⊢
      have hVU : Below NZ Z V := HSU.out.trans (ha.2.2.2 NZ HAC.out.2.1)
      have c0 := (World.cell?_of_block (a := ⟨C, 0, none⟩) (ha.2.2.1 C (Ne.symm HAC.out.1))).trans c0
      have fc0 := (World.frozen?_of_block (a := ⟨C, 0, none⟩) (ha.2.2.1 C (Ne.symm HAC.out.1))).trans fc0
      have c1 := (World.cell?_of_block (a := ⟨C, 1, none⟩) (ha.2.2.1 C (Ne.symm HAC.out.1))).trans c1
      have fc1 := (World.frozen?_of_block (a := ⟨C, 1, none⟩) (ha.2.2.1 C (Ne.symm HAC.out.1))).trans fc1
      have c2 := (World.cell?_of_block (a := ⟨C, 2, none⟩) (ha.2.2.1 C (Ne.symm HAC.out.1))).trans c2
      have fc2 := (World.frozen?_of_block (a := ⟨C, 2, none⟩) (ha.2.2.1 C (Ne.symm HAC.out.1))).trans fc2
      have c3 := (World.cell?_of_block (a := ⟨C, 3, none⟩) (ha.2.2.1 C (Ne.symm HAC.out.1))).trans c3
      have fc3 := (World.frozen?_of_block (a := ⟨C, 3, none⟩) (ha.2.2.1 C (Ne.symm HAC.out.1))).trans fc3
      have HVU := Lib.hid hVU
      clear hVU
      refine hK _ _ (fun _ => HVU.out) ?_
      clear hK K
      simp only [Act.put, List.setIfInBounds_toArray, List.set_cons_zero, List.set_cons_succ]
      refine wpAnyS_one (i := 15) (oi := ⟨none, _, _, _, _, _⟩) rfl (by kernel_rfl) (by rfl) (fun K hK => ?_)
      go_simp
      have hc := four_set V C (.string (sgT k)) (.bool (spW k)) (.int .i64 (x : Nat)) (.bool (frR (k : Int))) (by rw [c2]; rfl) (by rw [c3]; rfl)
      generalize ((((V.setCell ⟨C, 0, none⟩ (.string (sgT k))).setCell ⟨C, 1, none⟩ (.bool (spW k))).setCell ⟨C, 2, none⟩ (.int .i64 (x : Nat))).setCell ⟨C, 3, none⟩ (.bool (frR (k : Int)))) = T at hc ⊢
      have hTU : Below NZ Z T := HVU.out.trans (hc.2.2.2 NZ HAC.out.2.2)
      have a2 := (World.cell?_of_block (a := ⟨A, 2, none⟩) (hc.2.2.1 A HAC.out.1)).trans ha.1
      have a3 := (World.cell?_of_block (a := ⟨A, 3, none⟩) (hc.2.2.1 A HAC.out.1)).trans ha.2.1
      have c2 := hc.1
      have c3 := hc.2.1
      have HTU := Lib.hid hTU
      clear hTU ha hc
      refine hK _ _ (fun _ => HTU.out) ?_
      clear hK K
      simp only [Act.put, List.setIfInBounds_toArray, List.set_cons_zero, List.set_cons_succ]
      refine wpAnyS_done (by kernel_rfl) ?_
      refine Norm.normal ?_
      have hbw := Lib.hid (HBZ.out.trans (HTU.out.mono HWN.out))
      go_wp2_with fail
      go_ret
      exact ⟨by rw [HE.out]; first | rfl | (congr 2; exact decide_eq_decide.2 (by omega)), hbw.out⟩
  · have HE := Lib.hid (HN.out.trans (if_pos he))
    have d1 : ((y : Int) != (x : Int)) = true := bne_iff_ne.2 (by omega)
    clear he HN
    go_enter Tryd.func41, Tryd.ntmps41
    go_wp2_with fail
    have bx : ∀ q, (w.alloc (.cells #[.int .u8 (j : Int), .string f.n, .slice a1 f.args.length k1, .slice (some ⟨b, o, none⟩) f.sub.length k2] 25)).cell? ⟨w.heap.size, q, none⟩ = (#[.int .u8 (j : Int), .string f.n, .slice a1 f.args.length k1, .slice (some ⟨b, o, none⟩) f.sub.length k2] : Array Value)[q]? := fun q => World.cell?_alloc_at _ _ _ _ rfl
    have bl : w.heap.size < (w.alloc (.cells #[.int .u8 (j : Int), .string f.n, .slice a1 f.args.length k1, .slice (some ⟨b, o, none⟩) f.sub.length k2] 25)).heap.size := by simp
    have hbX : b < (w.alloc (.cells #[.int .u8 (j : Int), .string f.n, .slice a1 f.args.length k1, .slice (some ⟨b, o, none⟩) f.sub.length k2] 25)).heap.size := by simp; omega
    generalize (w.alloc (.cells #[.int .u8 (j : Int), .string f.n, .slice a1 f.args.length k1, .slice (some ⟨b, o, none⟩) f.sub.length k2] 25)) = X at *
    have hb := Below.drew (Below.refl X.heap.size X)
    have c0 := (hb.cell (p := ⟨b, o + i * 4, none⟩) hbX).trans c0
    have bx0 := (hb.cell (p := ⟨w.heap.size, 0, none⟩) bl).trans (bx 0)
    have bx3 := (hb.cell (p := ⟨w.heap.size, 3, none⟩) bl).trans (bx 3)
    have s0 := (hb.cell (p := ⟨0, _, none⟩) hz).trans s0
    have s1 := (hb.cell (p := ⟨0, _, none⟩) hz).trans s1
    have s2 := (hb.cell (p := ⟨0, _, none⟩) hz).trans s2
    have s3 := (hb.cell (p := ⟨0, _, none⟩) hz).trans s3
    have t0 := (hb.cell (p := ⟨0, _, none⟩) hz).trans t0
    have t1 := (hb.cell (p := ⟨0, _, none⟩) hz).trans t1
    have t2 := (hb.cell (p := ⟨0, _, none⟩) hz).trans t2
    have t3 := (hb.cell (p := ⟨0, _, none⟩) hz).trans t3
    have hbl : w.heap.size < X.drew.heap.size := Nat.lt_of_lt_of_le bl hb.size
    have hbb : b < X.drew.heap.size := Nat.lt_of_lt_of_le hbX hb.size
    have hzz : 0 < X.drew.heap.size := Nat.lt_of_lt_of_le hz hb.size
    have HBZ := Lib.hid (hb0.trans (hb.mono hb0.size))
    generalize hwd : X.drew = Z at *
    clear bx bl hbX hz hb hb0 c1 c2 c3
    obtain ⟨NZ, hNZ⟩ : ∃ N, Z.heap.size = N := ⟨_, rfl⟩
    rw [hNZ] at hbl hbb hzz
    have HNZ := Lib.hid hNZ
    have HWN := Lib.hid (show w.heap.size ≤ NZ by rw [← hNZ]; exact HBZ.out.size)
    refine wp_region_S (fun w' => Below NZ Z w') [] 16 #[false, false, false, false, false, false, false, false, false, false, false, false, false, false, false, false] (by kernel_rfl) (by kernel_rfl) (by kernel_rfl) (by rw [hwd]; exact Below.refl _ _) (fun hHeld => ?_)
    clear hNZ
    rw [hwd] at hHeld ⊢
    clear hwd
    refine wpAnyS_take (i := 0) (oi := ⟨some 7, _, _, _, _, _⟩) (v := .pointer (some ⟨w.heap.size, 0, none⟩)) rfl (by kernel_rfl) (by kernel_rfl) (by kernel_rfl) (by kernel_rfl) (fun _ _ _ h => Norm.panic h) (Or.inl ⟨by rfl, ?_⟩) (by assumption) ?_
    · intro w' hSw
      have hb' : Below NZ Z w' := hSw
      go_simp
    simp only [Act.put, List.setIfInBounds_toArray, List.set_cons_zero, List.set_cons_succ]
    refine wpAnyS_take (i := 1) (oi := ⟨some 8, _, _, _, _, _⟩) (v := .int .u8 (j : Int)) rfl (by kernel_rfl) (by kernel_rfl) (by kernel_rfl) (by kernel_rfl) (fun _ _ _ h => Norm.panic h) (Or.inl ⟨by rfl, ?_⟩) (by assumption) ?_
    · intro w' hSw
      have hb' : Below NZ Z w' := hSw
      have e0 := (hb'.cell (p := ⟨w.heap.size, 0, none⟩) hbl).trans bx0
      go_simp
    simp only [Act.put, List.setIfInBounds_toArray, List.set_cons_zero, List.set_cons_succ]
    refine wpAnyS_take (i := 2) (oi := ⟨some 9, _, _, _, _, _⟩) (v := .pointer (some ⟨0, j * 4, none⟩)) rfl (by kernel_rfl) (by kernel_rfl) (by kernel_rfl) (by kernel_rfl) (fun _ _ _ h => Norm.panic h) (Or.inl ⟨by rfl, ?_⟩) (by assumption) ?_
    · intro w' hSw
      have hb' : Below NZ Z w' := hSw
      go_simp
    simp only [Act.put, List.setIfInBounds_toArray, List.set_cons_zero, List.set_cons_succ]
    refine wpAnyS_take (i := 3) (oi := ⟨some 10, _, _, _, _, _⟩) (v := .agg #[.string (sgT j), .bool (spW j), .int .i64 (y : Nat), .bool fr]) rfl (by kernel_rfl) (by kernel_rfl) (by kernel_rfl) (by kernel_rfl) (fun _ _ _ h => Norm.panic h) (Or.inl ⟨by rfl, ?_⟩) (by assumption) ?_
    · intro w' hSw
      have hb' : Below NZ Z w' := hSw
      have e0 := (hb'.cell (p := ⟨0, _, none⟩) hzz).trans t0
      have e1 := (hb'.cell (p := ⟨0, _, none⟩) hzz).trans t1
      have e2 := (hb'.cell (p := ⟨0, _, none⟩) hzz).trans t2
      have e3 := (hb'.cell (p := ⟨0, _, none⟩) hzz).trans t3
      go_simp
    simp only [Act.put, List.setIfInBounds_toArray, List.set_cons_zero, List.set_cons_succ]
    refine wpAnyS_take (i := 4) (oi := ⟨some 11, _, _, _, _, _⟩) (v := .pointer (some ⟨w.heap.size, 3, none⟩)) rfl (by kernel_rfl) (by kernel_rfl) (by kernel_rfl) (by kernel_rfl) (fun _ _ _ h => Norm.panic h) (Or.inl ⟨by rfl, ?_⟩) (by assumption) ?_
    · intro w' hSw
      have hb' : Below NZ Z w' := hSw
      go_simp
    simp only [Act.put, List.setIfInBounds_toArray, List.set_cons_zero, List.set_cons_succ]
    refine wpAnyS_take (i := 5) (oi := ⟨some 12, _, _, _, _, _⟩) (v := .slice (some ⟨b, o, none⟩) f.sub.length k2) rfl (by kernel_rfl) (by kernel_rfl) (by kernel_rfl) (by kernel_rfl) (fun _ _ _ h => Norm.panic h) (Or.inl ⟨by rfl, ?_⟩) (by assumption) ?_
    · intro w' hSw
      have hb' : Below NZ Z w' := hSw
      have e0 := (hb'.cell (p := ⟨w.heap.size, 3, none⟩) hbl).trans bx3
      go_simp
    simp only [Act.put, List.setIfInBounds_toArray, List.set_cons_zero, List.set_cons_succ]
    refine wpAnyS_take (i := 6) (oi := ⟨some 13, _, _, _, _, _⟩) (v := .int .i64 (i : Int)) rfl (by kernel_rfl) (by kernel_rfl) (by kernel_rfl) (by kernel_rfl) (fun _ _ _ h => Norm.panic h) (Or.inl ⟨by rfl, ?_⟩) (by assumption) ?_
    · intro w' hSw
      have hb' : Below NZ Z w' := hSw
      go_simp
    simp only [Act.put, List.setIfInBounds_toArray, List.set_cons_zero, List.set_cons_succ]
    refine wpAnyS_take (i := 7) (oi := ⟨some 14, _, _, _, _, _⟩) (v := .pointer (some ⟨b, o + i * 4, none⟩)) rfl (by kernel_rfl) (by kernel_rfl) (by kernel_rfl) (by kernel_rfl) (fun _ _ _ h => Norm.panic h) (Or.inl ⟨by rfl, ?_⟩) (by assumption) ?_
    · intro w' hSw
      have hb' : Below NZ Z w' := hSw
      go_simp
    simp only [Act.put, List.setIfInBounds_toArray, List.set_cons_zero, List.set_cons_succ]
    refine wpAnyS_take (i := 8) (oi := ⟨some 15, _, _, _, _, _⟩) (v := .pointer (some ⟨b, o + i * 4, none⟩)) rfl (by kernel_rfl) (by kernel_rfl) (by kernel_rfl) (by kernel_rfl) (fun _ _ _ h => Norm.panic h) (Or.inl ⟨by rfl, ?_⟩) (by assumption) ?_
    · intro w' hSw
      have hb' : Below NZ Z w' := hSw
      go_simp
    simp only [Act.put, List.setIfInBounds_toArray, List.set_cons_zero, List.set_cons_succ]
    refine wpAnyS_take (i := 9) (oi := ⟨some 16, _, _, _, _, _⟩) (v := .int .u8 (k : Int)) rfl (by kernel_rfl) (by kernel_rfl) (by kernel_rfl) (by kernel_rfl) (fun _ _ _ h => Norm.panic h) (Or.inl ⟨by rfl, ?_⟩) (by assumption) ?_
    · intro w' hSw
      have hb' : Below NZ Z w' := hSw
      have e0 := (hb'.cell (p := ⟨b, _, none⟩) hbb).trans c0
      go_simp
    simp only [Act.put, List.setIfInBounds_toArray, List.set_cons_zero, List.set_cons_succ]
    refine wpAnyS_take (i := 10) (oi := ⟨some 17, _, _, _, _, _⟩) (v := .pointer (some ⟨0, k * 4, none⟩)) rfl (by kernel_rfl) (by kernel_rfl) (by kernel_rfl) (by kernel_rfl) (fun _ _ _ h => Norm.panic h) (Or.inl ⟨by rfl, ?_⟩) (by assumption) ?_
    · intro w' hSw
      have hb' : Below NZ Z w' := hSw
      go_simp
    simp only [Act.put, List.setIfInBounds_toArray, List.set_cons_zero, List.set_cons_succ]
    refine wpAnyS_take (i := 11) (oi := ⟨some 18, _, _, _, _, _⟩) (v := .agg #[.string (sgT k), .bool (spW k), .int .i64 (x : Nat), .bool (frR (k : Int))]) rfl (by kernel_rfl) (by kernel_rfl) (by kernel_rfl) (by kernel_rfl) (fun _ _ _ h => Norm.panic h) (Or.inl ⟨by rfl, ?_⟩) (by assumption) ?_
    · intro w' hSw
      have hb' : Below NZ Z w' := hSw
      have e0 := (hb'.cell (p := ⟨0, _, none⟩) hzz).trans s0
      have e1 := (hb'.cell (p := ⟨0, _, none⟩) hzz).trans s1
      have e2 := (hb'.cell (p := ⟨0, _, none⟩) hzz).trans s2
      have e3 := (hb'.cell (p := ⟨0, _, none⟩) hzz).trans s3
      go_simp
    simp only [Act.put, List.setIfInBounds_toArray, List.set_cons_zero, List.set_cons_succ]
    clear hHeld s0 s1 s2 s3 t0 t1 t2 t3 c0 bx0 bx3 hbl hbb hzz
    refine wpAnyS_two (i := 12) (j := 13) (oi := ⟨some 5, _, _, _, _, _⟩) (oj := ⟨some 6, _, _, _, _, _⟩) rfl rfl (by kernel_rfl) (by rfl) (by rfl) (fun K hK => ?hA2) (fun K hK => ?hB2)
    case' hA2 =>
      go_simp
      refine hK _ _ (fun _ => (Below.refl _ _).alloc (Nat.le_of_eq HNZ.out.symm) _) ?_
      clear hK K
      simp only [Act.put, List.setIfInBounds_toArray, List.set_cons_zero, List.set_cons_succ]
      refine wpAnyS_one (i := 13) (oi := ⟨some 6, _, _, _, _, _⟩) rfl (by kernel_rfl) (by rfl) (fun K hK => ?_)
      go_simp
      have a0 : ((Z.alloc (.cells #[.string ⟨#[]⟩, .bool false, .int .i64 0, .bool false] 88)).alloc (.cells #[.string ⟨#[]⟩, .bool false, .int .i64 0, .bool false] 88)).cell? ⟨Z.heap.size, 0, none⟩ = some (.string ⟨#[]⟩) := by rw [((Below.refl (Z.heap.size + 1) (Z.alloc (.cells #[.string ⟨#[]⟩, .bool false, .int .i64 0, .bool false] 88))).alloc (by simp) _).cell (p := ⟨Z.heap.size, 0, none⟩) (by show Z.heap.size < _; omega), World.cell?_alloc_at _ _ _ _ rfl]; rfl
      have fa0 : ((Z.alloc (.cells #[.string ⟨#[]⟩, .bool false, .int .i64 0, .bool false] 88)).alloc (.cells #[.string ⟨#[]⟩, .bool false, .int .i64 0, .bool false] 88)).frozen? ⟨Z.heap.size, 0, none⟩ = false := by rw [((Below.refl (Z.heap.size + 1) (Z.alloc (.cells #[.string ⟨#[]⟩, .bool false, .int .i64 0, .bool false] 88))).alloc (by simp) _).frozen (p := ⟨Z.heap.size, 0, none⟩) (by show Z.heap.size < _; omega), World.frozen?_alloc_at _ _ _ _ rfl]
      have a1 : ((Z.alloc (.cells #[.string ⟨#[]⟩, .bool false, .int .i64 0, .bool false] 88)).alloc (.cells #[.string ⟨#[]⟩, .bool false, .int .i64 0, .bool false] 88)).cell? ⟨Z.heap.size, 1, none⟩ = some (.bool false) := by rw [((Below.refl (Z.heap.size + 1) (Z.alloc (.cells #[.string ⟨#[]⟩, .bool false, .int .i64 0, .bool false] 88))).alloc (by simp) _).cell (p := ⟨Z.heap.size, 1, none⟩) (by show Z.heap.size < _; omega), World.cell?_alloc_at _ _ _ _ rfl]; rfl
      have fa1 : ((Z.alloc (.cells #[.string ⟨#[]⟩, .bool false, .int .i64 0, .bool false] 88)).alloc (.cells #[.string ⟨#[]⟩, .bool false, .int .i64 0, .bool false] 88)).frozen? ⟨Z.heap.size, 1, none⟩ = false := by rw [((Below.refl (Z.heap.size + 1) (Z.alloc (.cells #[.string ⟨#[]⟩, .bool false, .int .i64 0, .bool false] 88))).alloc (by simp) _).frozen (p := ⟨Z.heap.size, 1, none⟩) (by show Z.heap.size < _; omega), World.frozen?_alloc_at _ _ _ _ rfl]
      have a2 : ((Z.alloc (.cells #[.string ⟨#[]⟩, .bool false, .int .i64 0, .bool false] 88)).alloc (.cells #[.string ⟨#[]⟩, .bool false, .int .i64 0, .bool false] 88)).cell? ⟨Z.heap.size, 2, none⟩ = some (.int .i64 0) := by rw [((Below.refl (Z.heap.size + 1) (Z.alloc (.cells #[.string ⟨#[]⟩, .bool false, .int .i64 0, .bool false] 88))).alloc (by simp) _).cell (p := ⟨Z.heap.size, 2, none⟩) (by show Z.heap.size < _; omega), World.cell?_alloc_at _ _ _ _ rfl]; rfl
      have fa2 : ((Z.alloc (.cells #[.string ⟨#[]⟩, .bool false, .int .i64 0, .bool false] 88)).alloc (.cells #[.string ⟨#[]⟩, .bool false, .int .i64 0, .bool false] 88)).frozen? ⟨Z.heap.size, 2, none⟩ = false := by rw [((Below.refl (Z.heap.size + 1) (Z.alloc (.cells #[.string ⟨#[]⟩, .bool false, .int .i64 0, .bool false] 88))).alloc (by simp) _).frozen (p := ⟨Z.heap.size, 2, none⟩) (by show Z.heap.size < _; omega), World.frozen?_alloc_at _ _ _ _ rfl]
      have a3 : ((Z.alloc (.cells #[.string ⟨#[]⟩, .bool false, .int .i64 0, .bool false] 88)).alloc (.cells #[.string ⟨#[]⟩, .bool false, .int .i64 0, .bool false] 88)).cell? ⟨Z.heap.size, 3, none⟩ = some (.bool false) := by rw [((Below.refl (Z.heap.size + 1) (Z.alloc (.cells #[.string ⟨#[]⟩, .bool false, .int .i64 0, .bool false] 88))).alloc (by simp) _).cell (p := ⟨Z.heap.size, 3, none⟩) (by show Z.heap.size < _; omega), World.cell?_alloc_at _ _ _ _ rfl]; rfl
      have fa3 : ((Z.alloc (.cells #[.string ⟨#[]⟩, .bool false, .int .i64 0, .bool false] 88)).alloc (.cells #[.string ⟨#[]⟩, .bool false, .int .i64 0, .bool false] 88)).frozen? ⟨Z.heap.size, 3, none⟩ = false := by rw [((Below.refl (Z.heap.size + 1) (Z.alloc (.cells #[.string ⟨#[]⟩, .bool false, .int .i64 0, .bool false] 88))).alloc (by simp) _).frozen (p := ⟨Z.heap.size, 3, none⟩) (by show Z.heap.size < _; omega), World.frozen?_alloc_at _ _ _ _ rfl]
      have c0 : ((Z.alloc (.cells #[.string ⟨#[]⟩, .bool false, .int .i64 0, .bool false] 88)).alloc (.cells #[.string ⟨#[]⟩, .bool false, .int .i64 0, .bool false] 88)).cell? ⟨Z.heap.size + 1, 0, none⟩ = some (.string ⟨#[]⟩) := by rw [World.cell?_alloc_at _ _ _ _ (by simp)]; rfl
      have fc0 : ((Z.alloc (.cells #[.string ⟨#[]⟩, .bool false, .int .i64 0, .bool false] 88)).alloc (.cells #[.string ⟨#[]⟩, .bool false, .int .i64 0, .bool false] 88)).frozen? ⟨Z.heap.size + 1, 0, none⟩ = false := by rw [World.frozen?_alloc_at _ _ _ _ (by simp)]
      have c1 : ((Z.alloc (.cells #[.string ⟨#[]⟩, .bool false, .int .i64 0, .bool false] 88)).alloc (.cells #[.string ⟨#[]⟩, .bool false, .int .i64 0, .bool false] 88)).cell? ⟨Z.heap.size + 1, 1, none⟩ = some (.bool false) := by rw [World.cell?_alloc_at _ _ _ _ (by simp)]; rfl
      have fc1 : ((Z.alloc (.cells #[.string ⟨#[]⟩, .bool false, .int .i64 0, .bool false] 88)).alloc (.cells #[.string ⟨#[]⟩, .bool false, .int .i64 0, .bool false] 88)).frozen? ⟨Z.heap.size + 1, 1, none⟩ = false := by rw [World.frozen?_alloc_at _ _ _ _ (by simp)]
      have c2 : ((Z.alloc (.cells #[.string ⟨#[]⟩, .bool false, .int .i64 0, .bool false] 88)).alloc (.cells #[.string ⟨#[]⟩, .bool false, .int .i64 0, .bool false] 88)).cell? ⟨Z.heap.size + 1, 2, none⟩ = some (.int .i64 0) := by rw [World.cell?_alloc_at _ _ _ _ (by simp)]; rfl
      have fc2 : ((Z.alloc (.cells #[.string ⟨#[]⟩, .bool false, .int .i64 0, .bool false] 88)).alloc (.cells #[.string ⟨#[]⟩, .bool false, .int .i64 0, .bool false] 88)).frozen? ⟨Z.heap.size + 1, 2, none⟩ = false := by rw [World.frozen?_alloc_at _ _ _ _ (by simp)]
      have c3 : ((Z.alloc (.cells #[.string ⟨#[]⟩, .bool false, .int .i64 0, .bool false] 88)).alloc (.cells #[.string ⟨#[]⟩, .bool false, .int .i64 0, .bool false] 88)).cell? ⟨Z.heap.size + 1, 3, none⟩ = some (.bool false) := by rw [World.cell?_alloc_at _ _ _ _ (by simp)]; rfl
      have fc3 : ((Z.alloc (.cells #[.string ⟨#[]⟩, .bool false, .int .i64 0, .bool false] 88)).alloc (.cells #[.string ⟨#[]⟩, .bool false, .int .i64 0, .bool false] 88)).frozen? ⟨Z.heap.size + 1, 3, none⟩ = false := by rw [World.frozen?_alloc_at _ _ _ _ (by simp)]
      have hSU : Below NZ Z ((Z.alloc (.cells #[.string ⟨#[]⟩, .bool false, .int .i64 0, .bool false] 88)).alloc (.cells #[.string ⟨#[]⟩, .bool false, .int .i64 0, .bool false] 88)) := ((Below.refl _ _).alloc (Nat.le_of_eq HNZ.out.symm) _).alloc (by rw [World.size_alloc, HNZ.out]; omega) _
      generalize ((Z.alloc (.cells #[.string ⟨#[]⟩, .bool false, .int .i64 0, .bool false] 88)).alloc (.cells #[.string ⟨#[]⟩, .bool false, .int .i64 0, .bool false] 88)) = U at *
      have HAC := Lib.hid (show Z.heap.size ≠ Z.heap.size + 1 ∧ NZ ≤ Z.heap.size ∧ NZ ≤ Z.heap.size + 1 by rw [HNZ.out]; omega)
      generalize Z.heap.size + 1 = C at *
      generalize Z.heap.size = A at *
      have HSU := Lib.hid hSU
      clear hSU
      refine hK _ _ (fun _ => HSU.out) ?_
      clear hK K
      simp only [Act.put, List.setIfInBounds_toArray, List.set_cons_zero, List.set_cons_succ]
    case' hB2 =>
      go_simp
      refine hK _ _ (fun _ => (Below.refl _ _).alloc (Nat.le_of_eq HNZ.out.symm) _) ?_
      clear hK K
      simp only [Act.put, List.setIfInBounds_toArray, List.set_cons_zero, List.set_cons_succ]
      refine wpAnyS_one (i := 12) (oi := ⟨some 5, _, _, _, _, _⟩) rfl (by kernel_rfl) (by rfl) (fun K hK => ?_)
      go_simp
      have c0 : ((Z.alloc (.cells #[.string ⟨#[]⟩, .bool false, .int .i64 0, .bool false] 88)).alloc (.cells #[.string ⟨#[]⟩, .bool false, .int .i64 0, .bool false] 88)).cell? ⟨Z.heap.size, 0, none⟩ = some (.string ⟨#[]⟩) := by rw [((Below.refl (Z.heap.size + 1) (Z.alloc (.cells #[.string ⟨#[]⟩, .bool false, .int .i64 0, .bool false] 88))).alloc (by simp) _).cell (p := ⟨Z.heap.size, 0, none⟩) (by show Z.heap.size < _; omega), World.cell?_alloc_at _ _ _ _ rfl]; rfl
      have fc0 : ((Z.alloc (.cells #[.string ⟨#[]⟩, .bool false, .int .i64 0, .bool false] 88)).alloc (.cells #[.string ⟨#[]⟩, .bool false, .int .i64 0, .bool false] 88)).frozen? ⟨Z.heap.size, 0, none⟩ = false := by rw [((Below.refl (Z.heap.size + 1) (Z.alloc (.cells #[.string ⟨#[]⟩, .bool false, .int .i64 0, .bool false] 88))).alloc (by simp) _).frozen (p := ⟨Z.heap.size, 0, none⟩) (by show Z.heap.size < _; omega), World.frozen?_alloc_at _ _ _ _ rfl]
      have c1 : ((Z.alloc (.cells #[.string ⟨#[]⟩, .bool false, .int .i64 0, .bool false] 88)).alloc (.cells #[.string ⟨#[]⟩, .bool false, .int .i64 0, .bool false] 88)).cell? ⟨Z.heap.size, 1, none⟩ = some (.bool false) := by rw [((Below.refl (Z.heap.size + 1) (Z.alloc (.cells #[.string ⟨#[]⟩, .bool false, .int .i64 0, .bool false] 88))).alloc (by simp) _).cell (p := ⟨Z.heap.size, 1, none⟩) (by show Z.heap.size < _; omega), World.cell?_alloc_at _ _ _ _ rfl]; rfl
      have fc1 : ((Z.alloc (.cells #[.string ⟨#[]⟩, .bool false, .int .i64 0, .bool false] 88)).alloc (.cells #[.string ⟨#[]⟩, .bool false, .int .i64 0, .bool false] 88)).frozen? ⟨Z.heap.size, 1, none⟩ = false := by rw [((Below.refl (Z.heap.size + 1) (Z.alloc (.cells #[.string ⟨#[]⟩, .bool false, .int .i64 0, .bool false] 88))).alloc (by simp) _).frozen (p := ⟨Z.heap.size, 1, none⟩) (by show Z.heap.size < _; omega), World.frozen?_alloc_at _ _ _ _ rfl]
      have c2 : ((Z.alloc (.cells #[.string ⟨#[]⟩, .bool false, .int .i64 0, .bool false] 88)).alloc (.cells #[.string ⟨#[]⟩, .bool false, .int .i64 0, .bool false] 88)).cell? ⟨Z.heap.size, 2, none⟩ = some (.int .i64 0) := by rw [((Below.refl (Z.heap.size + 1) (Z.alloc (.cells #[.string ⟨#[]⟩, .bool false, .int .i64 0, .bool false] 88))).alloc (by simp) _).cell (p := ⟨Z.heap.size, 2, none⟩) (by show Z.heap.size < _; omega), World.cell?_alloc_at _ _ _ _ rfl]; rfl
      have fc2 : ((Z.alloc (.cells #[.string ⟨#[]⟩, .bool false, .int .i64 0, .bool false] 88)).alloc (.cells #[.string ⟨#[]⟩, .bool false, .int .i64 0, .bool false] 88)).frozen? ⟨Z.heap.size, 2, none⟩ = false := by rw [((Below.refl (Z.heap.size + 1) (Z.alloc (.cells #[.string ⟨#[]⟩, .bool false, .int .i64 0, .bool false] 88))).alloc (by simp) _).frozen (p := ⟨Z.heap.size, 2, none⟩) (by show Z.heap.size < _; omega), World.frozen?_alloc_at _ _ _ _ rfl]
      have c3 : ((Z.alloc (.cells #[.string ⟨#[]⟩, .bool false, .int .i64 0, .bool false] 88)).alloc (.cells #[.string ⟨#[]⟩, .bool false, .int .i64 0, .bool false] 88)).cell? ⟨Z.heap.size, 3, none⟩ = some (.bool false) := by rw [((Below.refl (Z.heap.size + 1) (Z.alloc (.cells #[.string ⟨#[]⟩, .bool false, .int .i64 0, .bool false] 88))).alloc (by simp) _).cell (p := ⟨Z.heap.size, 3, none⟩) (by show Z.heap.size < _; omega), World.cell?_alloc_at _ _ _ _ rfl]; rfl
      have fc3 : ((Z.alloc (.cells #[.string ⟨#[]⟩, .bool false, .int .i64 0, .bool false] 88)).alloc (.cells #[.string ⟨#[]⟩, .bool false, .int .i64 0, .bool false] 88)).frozen? ⟨Z.heap.size, 3, none⟩ = false := by rw [((Below.refl (Z.heap.size + 1) (Z.alloc (.cells #[.string ⟨#[]⟩, .bool false, .int .i64 0, .bool false] 88))).alloc (by simp) _).frozen (p := ⟨Z.heap.size, 3, none⟩) (by show Z.heap.size < _; omega), World.frozen?_alloc_at _ _ _ _ rfl]
      have a0 : ((Z.alloc (.cells #[.string ⟨#[]⟩, .bool false, .int .i64 0, .bool false] 88)).alloc (.cells #[.string ⟨#[]⟩, .bool false, .int .i64 0, .bool false] 88)).cell? ⟨Z.heap.size + 1, 0, none⟩ = some (.string ⟨#[]⟩) := by rw [World.cell?_alloc_at _ _ _ _ (by simp)]; rfl
      have fa0 : ((Z.alloc (.cells #[.string ⟨#[]⟩, .bool false, .int .i64 0, .bool false] 88)).alloc (.cells #[.string ⟨#[]⟩, .bool false, .int .i64 0, .bool false] 88)).frozen? ⟨Z.heap.size + 1, 0, none⟩ = false := by rw [World.frozen?_alloc_at _ _ _ _ (by simp)]
      have a1 : ((Z.alloc (.cells #[.string ⟨#[]⟩, .bool false, .int .i64 0, .bool false] 88)).alloc (.cells #[.string ⟨#[]⟩, .bool false, .int .i64 0, .bool false] 88)).cell? ⟨Z.heap.size + 1, 1, none⟩ = some (.bool false) := by rw [World.cell?_alloc_at _ _ _ _ (by simp)]; rfl
      have fa1 : ((Z.alloc (.cells #[.string ⟨#[]⟩, .bool false, .int .i64 0, .bool false] 88)).alloc (.cells #[.string ⟨#[]⟩, .bool false, .int .i64 0, .bool false] 88)).frozen? ⟨Z.heap.size + 1, 1, none⟩ = false := by rw [World.frozen?_alloc_at _ _ _ _ (by simp)]
      have a2 : ((Z.alloc (.cells #[.string ⟨#[]⟩, .bool false, .int .i64 0, .bool false] 88)).alloc (.cells #[.string ⟨#[]⟩, .bool false, .int .i64 0, .bool false] 88)).cell? ⟨Z.heap.size + 1, 2, none⟩ = some (.int .i64 0) := by rw [World.cell?_alloc_at _ _ _ _ (by simp)]; rfl
      have fa2 : ((Z.alloc (.cells #[.string ⟨#[]⟩, .bool false, .int .i64 0, .bool false] 88)).alloc (.cells #[.string ⟨#[]⟩, .bool false, .int .i64 0, .bool false] 88)).frozen? ⟨Z.heap.size + 1, 2, none⟩ = false := by rw [World.frozen?_alloc_at _ _ _ _ (by simp)]
      have a3 : ((Z.alloc (.cells #[.string ⟨#[]⟩, .bool false, .int .i64 0, .bool false] 88)).alloc (.cells #[.string ⟨#[]⟩, .bool false, .int .i64 0, .bool false] 88)).cell? ⟨Z.heap.size + 1, 3, none⟩ = some (.bool false) := by rw [World.cell?_alloc_at _ _ _ _ (by simp)]; rfl
      have fa3 : ((Z.alloc (.cells #[.string ⟨#[]⟩, .bool false, .int .i64 0, .bool false] 88)).alloc (.cells #[.string ⟨#[]⟩, .bool false, .int .i64 0, .bool false] 88)).frozen? ⟨Z.heap.size + 1, 3, none⟩ = false := by rw [World.frozen?_alloc_at _ _ _ _ (by simp)]
      have hSU : Below NZ Z ((Z.alloc (.cells #[.string ⟨#[]⟩, .bool false, .int .i64 0, .bool false] 88)).alloc (.cells #[.string ⟨#[]⟩, .bool false, .int .i64 0, .bool false] 88)) := ((Below.refl _ _).alloc (Nat.le_of_eq HNZ.out.symm) _).alloc (by rw [World.size_alloc, HNZ.out]; omega) _
      generalize ((Z.alloc (.cells #[.string ⟨#[]⟩, .bool false, .int .i64 0, .bool false] 88)).alloc (.cells #[.string ⟨#[]⟩, .bool false, .int .i64 0, .bool false] 88)) = U at *
      have HAC := Lib.hid (show Z.heap.size + 1 ≠ Z.heap.size ∧ NZ ≤ Z.heap.size + 1 ∧ NZ ≤ Z.heap.size by rw [HNZ.out]; omega)
      generalize Z.heap.size + 1 = A at *
      generalize Z.heap.size = C at *
      have HSU := Lib.hid hSU
      clear hSU
      refine hK _ _ (fun _ => HSU.out) ?_
      clear hK K
      simp only [Act.put, List.setIfInBounds_toArray, List.set_cons_zero, List.set_cons_succ]
    all_goals
      refine wpAnyS_one (i := 14) (oi := ⟨none, _, _, _, _, _⟩) rfl (by kernel_rfl) (by rfl) (fun K hK => ?_)
      go_simp
      have ha := four_set U A (.string (sgT j)) (.bool (spW j)) (.int .i64 (y : Nat)) (.bool fr) (by rw [a2]; rfl) (by rw [a3]; rfl)
      generalize ((((U.setCell ⟨A, 0, none⟩ (.string (sgT j))).setCell ⟨A, 1, none⟩ (.bool (spW j))).setCell ⟨A, 2, none⟩ (.int .i64 (y : Nat))).setCell ⟨A, 3, none⟩ (.bool fr)) = V at ha ⊢
      have hVU : Below NZ Z V := HSU.out.trans (ha.2.2.2 NZ HAC.out.2.1)
      have c0 := (World.cell?_of_block (a := ⟨C, 0, none⟩) (ha.2.2.1 C (Ne.symm HAC.out.1))).trans c0
      have fc0 := (World.frozen?_of_block (a := ⟨C, 0, none⟩) (ha.2.2.1 C (Ne.symm HAC.out.1))).trans fc0
      have c1 := (World.cell?_of_block (a := ⟨C, 1, none⟩) (ha.2.2.1 C (Ne.symm HAC.out.1))).trans c1
      have fc1 := (World.frozen?_of_block (a := ⟨C, 1, none⟩) (ha.2.2.1 C (Ne.symm HAC.out.1))).trans fc1
      have c2 := (World.cell?_of_block (a := ⟨C, 2, none⟩) (ha.2.2.1 C (Ne.symm HAC.out.1))).trans c2
      have fc2 := (World.frozen?_of_block (a := ⟨C, 2, none⟩) (ha.2.2.1 C (Ne.symm HAC.out.1))).trans fc2
      have c3 := (World.cell?_of_block (a := ⟨C, 3, none⟩) (ha.2.2.1 C (Ne.symm HAC.out.1))).trans c3
      have fc3 := (World.frozen?_of_block (a := ⟨C, 3, none⟩) (ha.2.2.1 C (Ne.symm HAC.out.1))).trans fc3
      have HVU := Lib.hid hVU
      clear hVU
      refine hK _ _ (fun _ => HVU.out) ?_
      clear hK K
      simp only [Act.put, List.setIfInBounds_toArray, List.set_cons_zero, List.set_cons_succ]
      refine wpAnyS_one (i := 15) (oi := ⟨none, _, _, _, _, _⟩) rfl (by kernel_rfl) (by rfl) (fun K hK => ?_)
      go_simp
      have hc := four_set V C (.string (sgT k)) (.bool (spW k)) (.int .i64 (x : Nat)) (.bool (frR (k : Int))) (by rw [c2]; rfl) (by rw [c3]; rfl)
      generalize ((((V.setCell ⟨C, 0, none⟩ (.string (sgT k))).setCell ⟨C, 1, none⟩ (.bool (spW k))).setCell ⟨C, 2, none⟩ (.int .i64 (x : Nat))).setCell ⟨C, 3, none⟩ (.bool (frR (k : Int)))) = T at hc ⊢
      have hTU : Below NZ Z T := HVU.out.trans (hc.2.2.2 NZ HAC.out.2.2)
      have a2 := (World.cell?_of_block (a := ⟨A, 2, none⟩) (hc.2.2.1 A HAC.out.1)).trans ha.1
      have a3 := (World.cell?_of_block (a := ⟨A, 3, none⟩) (hc.2.2.1 A HAC.out.1)).trans ha.2.1
      have c2 := hc.1
      have c3 := hc.2.1
      have HTU := Lib.hid hTU
      clear hTU ha hc
      refine hK _ _ (fun _ => HTU.out) ?_
      clear hK K
      simp only [Act.put, List.setIfInBounds_toArray, List.set_cons_zero, List.set_cons_succ]
      refine wpAnyS_done (by kernel_rfl) ?_
      refine Norm.normal ?_
      have hbw := Lib.hid (HBZ.out.trans (HTU.out.mono HWN.out))
      go_wp2_with fail
      go_ret
      exact ⟨by rw [HE.out]; first | rfl | (congr 2; exact decide_eq_decide.2 (by omega)), hbw.out⟩
end Go.Proofs.YtdapnjnmhkdnpaaDoor.Fb
