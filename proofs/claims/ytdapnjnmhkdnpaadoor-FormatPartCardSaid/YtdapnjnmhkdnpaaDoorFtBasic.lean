/-
  The contract of basic: a formula without parts.
-/
import Derived.Test.YtdapnjnmhkdnpaaDoorFtApply
import Derived.Test.YtdapnjnmhkdnpaaDoorFtSize
namespace Go.Proofs.YtdapnjnmhkdnpaaDoor.Fb
open Go Go.RowKit Go.Shelf Go.Proofs.YtdapnjnmhkdnpaaDoor.Fm Go.Proofs.YtdapnjnmhkdnpaaDoor.Lx Go.Proofs.YtdapnjnmhkdnpaaDoor.Ps Go.Proofs.YtdapnjnmhkdnpaaDoor.Ft
set_option linter.unusedVariables false
set_option linter.unusedSimpArgs false
theorem op_mk (o : Int) (n : ByteArray) (a : List Tm) (s : List Fo) : (Fo.mk o n a s).op = o := rfl
theorem n_mk (o : Int) (n : ByteArray) (a : List Tm) (s : List Fo) : (Fo.mk o n a s).n = n := rfl
theorem args_mk (o : Int) (n : ByteArray) (a : List Tm) (s : List Fo) : (Fo.mk o n a s).args = a := rfl
theorem sub_mk (o : Int) (n : ByteArray) (a : List Tm) (s : List Fo) : (Fo.mk o n a s).sub = s := rfl
theorem box4 (w : World) (v0 v1 v2 v3 : Value) (t : TypeId) : (w.alloc (.cells #[v0, v1, v2, v3] t)).cell? ⟨w.heap.size, 0, none⟩ = some v0 ∧ (w.alloc (.cells #[v0, v1, v2, v3] t)).cell? ⟨w.heap.size, 1, none⟩ = some v1 ∧
    (w.alloc (.cells #[v0, v1, v2, v3] t)).cell? ⟨w.heap.size, 2, none⟩ = some v2 ∧ (w.alloc (.cells #[v0, v1, v2, v3] t)).cell? ⟨w.heap.size, 3, none⟩ = some v3 ∧ w.heap.size < (w.alloc (.cells #[v0, v1, v2, v3] t)).heap.size := by
  refine ⟨?_, ?_, ?_, ?_, ?_⟩ <;> simp
theorem baB_ato (c : Pc) (n : ByteArray) (a : List Tm) : baB c (.mk 1 n a []) = apB c n a := by
  unfold baB basP apB
  simp [Fo.op, Fo.n, Fo.args]
theorem baB_met (c : Pc) (n : ByteArray) : baB c (.mk 15 n [] []) = apB c n [] := by
  unfold baB basP apB
  simp [Fo.op, Fo.n, Fo.args]
theorem baB_ins (c : Pc) (n x t : ByteArray) (v w : Bool) : baB c (.mk 16 n [.mk v x [], .mk w t []] []) = (n ++ ⟨#[91]⟩ ++ t ++ ⟨#[47]⟩ ++ x ++ ⟨#[93]⟩ : ByteArray).data.toList := by
  unfold baB basP
  simp [Fo.op, Fo.n, Fo.args, Tm.n]
structure BaS (F q o : Nat) (n x t : ByteArray) (sl : Value) (w' : World) : Prop where
  c1 : w'.cell? ⟨F, 1, none⟩ = some (.string n)
  c2 : w'.cell? ⟨F, 2, none⟩ = some sl
  d0 : w'.cell? ⟨q, o + 1, none⟩ = some (.string x)
  d1 : w'.cell? ⟨q, o + 3 + 1, none⟩ = some (.string t)
set_option maxHeartbeats 4000000 in
set_option maxRecDepth 20000 in
theorem basic_c (m : Bool) (c : Pc) (f : Fo) (hs : Shp m f) (hsub : f.sub = []) (w : World) (B b dn : Nat) (v v0 v1 v2 v3 : Value) (l : Bs) (hbd : Bw w B b v l) (hf : FoV dn w v0 v1 v2 v3 f) (hd : dn ≤ B) (hBw : B ≤ w.heap.size) (hlen : l.length + (baB c f).length ≤ 140737488355328) :
    Calls Tryd.prog 50 #[.pointer (some ⟨b, 0, none⟩), .agg #[v0, v1, v2, v3], .string (bs (cmB c))] w fun e w' => e = .returned (.tuple #[]) ∧ Wr B b v l w w' (baB c f) := by
  have hb0 : Below w.heap.size w (w.alloc (.cells #[v0, v1, v2, v3] 25)) := (Below.refl _ _).alloc (Nat.le_refl _) _
  have hbd0 := hbd.below hb0 (Nat.le_refl _)
  have hf0 := hf.below hb0 (by omega)
  have hBX : B ≤ (w.alloc (.cells #[v0, v1, v2, v3] 25)).heap.size := by simp; omega
  cases hs with
  | @ato n a hp h4 ha =>
    rw [baB_ato] at hlen ⊢
    have HC := Lib.hid (apply_c c _ a (Nat.lt_succ_self _) n _ B b dn v v2 l hbd0 hf0.args hd hBX hlen)
    have HB := Lib.hid hb0
    obtain ⟨rfl, _, rfl, hok, hA, hS⟩ := hf
    obtain ⟨⟨a1, k1, rfl⟩, _⟩ := hA.form
    obtain ⟨⟨a2, k2, rfl⟩, _⟩ := hS.form
    simp only [op_mk, n_mk, args_mk, sub_mk] at *
    clear hbd hbd0 hf0 hA hS hok hp h4 ha hb0
    go_enter Tryd.func50, Tryd.ntmps50
    go_wp2_with fail
    refine HC.out.mono ?_
    rintro e w1 ⟨rfl, b1⟩
    have hF := Lib.hid (Wr.ahead HB.out (Nat.le_refl _) b1)
    clear b1
    go_wp2_with fail
    go_end0
    exact ⟨rfl, hF.out⟩
  | fal =>
    have HC := Lib.hid (wrS hbd0 ⟨#[102, 97, 108, 115, 101]⟩ hlen hBX)
    have HB := Lib.hid hb0
    obtain ⟨rfl, _, rfl, hok, hA, hS⟩ := hf
    obtain ⟨⟨a1, k1, rfl⟩, _⟩ := hA.form
    obtain ⟨⟨a2, k2, rfl⟩, _⟩ := hS.form
    simp only [op_mk, n_mk, args_mk, sub_mk] at *
    clear hbd hbd0 hf0 hA hS hok hb0
    go_enter Tryd.func50, Tryd.ntmps50
    go_wp2_with fail
    refine HC.out.mono ?_
    rintro e w1 ⟨rfl, b1⟩
    have hF := Lib.hid (Wr.ahead HB.out (Nat.le_refl _) b1)
    clear b1
    go_wp2_with fail
    go_end0
    exact ⟨rfl, hF.out⟩
  | @met n hm hn =>
    rw [baB_met] at hlen ⊢
    have HC := Lib.hid (apply_c c _ [] (Nat.lt_succ_self _) n _ B b dn v v2 l hbd0 hf0.args hd hBX hlen)
    have HB := Lib.hid hb0
    obtain ⟨rfl, _, rfl, hok, hA, hS⟩ := hf
    obtain ⟨⟨a1, k1, rfl⟩, _⟩ := hA.form
    obtain ⟨⟨a2, k2, rfl⟩, _⟩ := hS.form
    simp only [op_mk, n_mk, args_mk, sub_mk] at *
    clear hbd hbd0 hf0 hA hS hok hb0
    go_enter Tryd.func50, Tryd.ntmps50
    go_wp2_with fail
    refine HC.out.mono ?_
    rintro e w1 ⟨rfl, b1⟩
    have hF := Lib.hid (Wr.ahead HB.out (Nat.le_refl _) b1)
    clear b1
    go_wp2_with fail
    go_end0
    exact ⟨rfl, hF.out⟩
  | @ins n t x hm hn ht hx =>
    rw [baB_ins] at hlen ⊢
    rw [ba_len] at hlen
    have l1 := met_le (mf_met hn)
    have l2 := met_le (mt_met ht)
    have l3 := var_le hx
    have w1 : ¬ 9223372036854775807 < n.size + 1 := by omega
    have w2 : ¬ 9223372036854775807 < n.size + 1 + t.size := by omega
    have w3 : ¬ 9223372036854775807 < n.size + 1 + t.size + 1 := by omega
    have w4 : ¬ 9223372036854775807 < n.size + 1 + t.size + 1 + x.size := by omega
    have w5 : ¬ 9223372036854775807 < n.size + 1 + t.size + 1 + x.size + 1 := by omega
    have hA2 := hf0.args
    obtain ⟨rfl, _, rfl, hok, hA, hS⟩ := hf
    obtain ⟨⟨a1, k1, rfl⟩, _⟩ := hA.form
    obtain ⟨⟨a2, k2, rfl⟩, _⟩ := hS.form
    obtain ⟨_, q, o, rfl, hqn, u0, u1, u2, c0, c1, c2, hu⟩ := hA2.get (i := 0) (Nat.zero_lt_succ _)
    obtain ⟨_, q', o', he, hqn', y0, y1, y2, d0, d1, d2, hv⟩ := hA2.get (i := 1) (Nat.succ_lt_succ (Nat.zero_lt_succ _))
    injection he with he
    injection he with he1 he2
    subst he1; subst he2
    have z1 : u1 = .string x := hu.nm
    have z2 : y1 = .string t := hv.nm
    subst z1 z2
    obtain ⟨b0, b1, b2, b3, bz⟩ := box4 w (.int .u8 (Fo.mk 16 n [.mk true x [], .mk true t []] []).op) (.string (Fo.mk 16 n [.mk true x [], .mk true t []] []).n) (.slice (some ⟨q, o, none⟩) (Fo.mk 16 n [.mk true x [], .mk true t []] []).args.length k1) (.slice a2 (Fo.mk 16 n [.mk true x [], .mk true t []] []).sub.length k2) 25
    have hHeld : BaS w.heap.size q o n x t (.slice (some ⟨q, o, none⟩) 2 k1) (w.alloc (.cells #[.int .u8 (Fo.mk 16 n [.mk true x [], .mk true t []] []).op, .string (Fo.mk 16 n [.mk true x [], .mk true t []] []).n, .slice (some ⟨q, o, none⟩) (Fo.mk 16 n [.mk true x [], .mk true t []] []).args.length k1, .slice a2 (Fo.mk 16 n [.mk true x [], .mk true t []] []).sub.length k2] 25)) :=
      ⟨b1, b2, by rwa [Nat.zero_mul, Nat.add_zero] at c1, by rwa [Nat.one_mul] at d1⟩
    simp only [op_mk, n_mk, args_mk, sub_mk, List.length_cons, List.length_nil, Nat.zero_add, Nat.reduceAdd] at *
    generalize hXX : w.alloc (.cells #[.int .u8 16, .string n, .slice (some ⟨q, o, none⟩) 2 k1, .slice a2 0 k2] 25) = X at hbd0 hb0 hBX bz hHeld
    have HXX := Lib.hid hXX
    have HLT := Lib.hid hbd.lt
    have HGE := Lib.hid hbd.ge
    have HBD := Lib.hid hbd0
    have HB := Lib.hid hb0
    have HLEN := Lib.hid hlen
    clear hXX b0
    clear hbd hbd0 hf0 hA hA2 hS hok hu hv hb0 hlen c0 c1 c2 d0 d1 d2 b1 b2 b3 l1 l2 l3
    go_enter Tryd.func50, Tryd.ntmps50
    go_wp2_with fail
    rw [HXX.out]
    refine wp_region_S (BaS w.heap.size q o n x t (.slice (some ⟨q, o, none⟩) 2 k1)) [] 19 #[false, false, false, false, false, false, false, false, false, false, false, false, false, false, false, false, false, false, false] (by kernel_rfl) (by kernel_rfl) (by kernel_rfl) ⟨hHeld.c1, hHeld.c2, hHeld.d0, hHeld.d1⟩ (fun hHeld => ?_)
    refine wpAnyS_take (i := 0) (oi := ⟨some 21, _, _, _, _, _⟩) (v := .pointer (some ⟨b, 0, none⟩)) rfl (by kernel_rfl) (by kernel_rfl) (by kernel_rfl) (by kernel_rfl) (fun _ _ _ h => Norm.panic h) (Or.inl ⟨by rfl, ?_⟩) (by assumption) ?_
    · intro w' hSw
      obtain ⟨t0, t1, t2, t3⟩ := hSw
      go_simp
    simp only [Act.put, List.setIfInBounds_toArray, List.set_cons_zero, List.set_cons_succ]
    refine wpAnyS_take (i := 1) (oi := ⟨some 22, _, _, _, _, _⟩) (v := .pointer (some ⟨w.heap.size, 1, none⟩)) rfl (by kernel_rfl) (by kernel_rfl) (by kernel_rfl) (by kernel_rfl) (fun _ _ _ h => Norm.panic h) (Or.inl ⟨by rfl, ?_⟩) (by assumption) ?_
    · intro w' hSw
      obtain ⟨t0, t1, t2, t3⟩ := hSw
      go_simp
    simp only [Act.put, List.setIfInBounds_toArray, List.set_cons_zero, List.set_cons_succ]
    refine wpAnyS_take (i := 4) (oi := ⟨some 25, _, _, _, _, _⟩) (v := .pointer (some ⟨w.heap.size, 2, none⟩)) rfl (by kernel_rfl) (by kernel_rfl) (by kernel_rfl) (by kernel_rfl) (fun _ _ _ h => Norm.panic h) (Or.inl ⟨by rfl, ?_⟩) (by assumption) ?_
    · intro w' hSw
      obtain ⟨t0, t1, t2, t3⟩ := hSw
      go_simp
    simp only [Act.put, List.setIfInBounds_toArray, List.set_cons_zero, List.set_cons_succ]
    refine wpAnyS_take (i := 11) (oi := ⟨some 32, _, _, _, _, _⟩) (v := .pointer (some ⟨w.heap.size, 2, none⟩)) rfl (by kernel_rfl) (by kernel_rfl) (by kernel_rfl) (by kernel_rfl) (fun _ _ _ h => Norm.panic h) (Or.inl ⟨by rfl, ?_⟩) (by assumption) ?_
    · intro w' hSw
      obtain ⟨t0, t1, t2, t3⟩ := hSw
      go_simp
    simp only [Act.put, List.setIfInBounds_toArray, List.set_cons_zero, List.set_cons_succ]
    refine wpAnyS_take (i := 2) (oi := ⟨some 23, _, _, _, _, _⟩) (v := .string n) rfl (by kernel_rfl) (by kernel_rfl) (by kernel_rfl) (by kernel_rfl) (fun _ _ _ h => Norm.panic h) (Or.inl ⟨by rfl, ?_⟩) (by assumption) ?_
    · intro w' hSw
      obtain ⟨t0, t1, t2, t3⟩ := hSw
      go_simp
    simp only [Act.put, List.setIfInBounds_toArray, List.set_cons_zero, List.set_cons_succ]
    refine wpAnyS_take (i := 5) (oi := ⟨some 26, _, _, _, _, _⟩) (v := .slice (some ⟨q, o, none⟩) 2 k1) rfl (by kernel_rfl) (by kernel_rfl) (by kernel_rfl) (by kernel_rfl) (fun _ _ _ h => Norm.panic h) (Or.inl ⟨by rfl, ?_⟩) (by assumption) ?_
    · intro w' hSw
      obtain ⟨t0, t1, t2, t3⟩ := hSw
      go_simp
    simp only [Act.put, List.setIfInBounds_toArray, List.set_cons_zero, List.set_cons_succ]
    refine wpAnyS_take (i := 12) (oi := ⟨some 33, _, _, _, _, _⟩) (v := .slice (some ⟨q, o, none⟩) 2 k1) rfl (by kernel_rfl) (by kernel_rfl) (by kernel_rfl) (by kernel_rfl) (fun _ _ _ h => Norm.panic h) (Or.inl ⟨by rfl, ?_⟩) (by assumption) ?_
    · intro w' hSw
      obtain ⟨t0, t1, t2, t3⟩ := hSw
      go_simp
    simp only [Act.put, List.setIfInBounds_toArray, List.set_cons_zero, List.set_cons_succ]
    refine wpAnyS_take (i := 3) (oi := ⟨some 24, _, _, _, _, _⟩) (v := .string (n ++ ⟨#[91]⟩)) rfl (by kernel_rfl) (by kernel_rfl) (by kernel_rfl) (by kernel_rfl) (fun _ _ _ h => Norm.panic h) (Or.inl ⟨by rfl, ?_⟩) (by assumption) ?_
    · intro w' hSw
      obtain ⟨t0, t1, t2, t3⟩ := hSw
      go_simp
    simp only [Act.put, List.setIfInBounds_toArray, List.set_cons_zero, List.set_cons_succ]
    refine wpAnyS_take (i := 6) (oi := ⟨some 27, _, _, _, _, _⟩) (v := .pointer (some ⟨q, o + 3, none⟩)) rfl (by kernel_rfl) (by kernel_rfl) (by kernel_rfl) (by kernel_rfl) (fun _ _ _ h => Norm.panic h) (Or.inl ⟨by rfl, ?_⟩) (by assumption) ?_
    · intro w' hSw
      obtain ⟨t0, t1, t2, t3⟩ := hSw
      go_simp
    simp only [Act.put, List.setIfInBounds_toArray, List.set_cons_zero, List.set_cons_succ]
    refine wpAnyS_take (i := 13) (oi := ⟨some 34, _, _, _, _, _⟩) (v := .pointer (some ⟨q, o, none⟩)) rfl (by kernel_rfl) (by kernel_rfl) (by kernel_rfl) (by kernel_rfl) (fun _ _ _ h => Norm.panic h) (Or.inl ⟨by rfl, ?_⟩) (by assumption) ?_
    · intro w' hSw
      obtain ⟨t0, t1, t2, t3⟩ := hSw
      go_simp
    simp only [Act.put, List.setIfInBounds_toArray, List.set_cons_zero, List.set_cons_succ]
    refine wpAnyS_take (i := 7) (oi := ⟨some 28, _, _, _, _, _⟩) (v := .pointer (some ⟨q, o + 3 + 1, none⟩)) rfl (by kernel_rfl) (by kernel_rfl) (by kernel_rfl) (by kernel_rfl) (fun _ _ _ h => Norm.panic h) (Or.inl ⟨by rfl, ?_⟩) (by assumption) ?_
    · intro w' hSw
      obtain ⟨t0, t1, t2, t3⟩ := hSw
      go_simp
    simp only [Act.put, List.setIfInBounds_toArray, List.set_cons_zero, List.set_cons_succ]
    refine wpAnyS_take (i := 14) (oi := ⟨some 35, _, _, _, _, _⟩) (v := .pointer (some ⟨q, o + 1, none⟩)) rfl (by kernel_rfl) (by kernel_rfl) (by kernel_rfl) (by kernel_rfl) (fun _ _ _ h => Norm.panic h) (Or.inl ⟨by rfl, ?_⟩) (by assumption) ?_
    · intro w' hSw
      obtain ⟨t0, t1, t2, t3⟩ := hSw
      go_simp
    simp only [Act.put, List.setIfInBounds_toArray, List.set_cons_zero, List.set_cons_succ]
    refine wpAnyS_take (i := 8) (oi := ⟨some 29, _, _, _, _, _⟩) (v := .string t) rfl (by kernel_rfl) (by kernel_rfl) (by kernel_rfl) (by kernel_rfl) (fun _ _ _ h => Norm.panic h) (Or.inl ⟨by rfl, ?_⟩) (by assumption) ?_
    · intro w' hSw
      obtain ⟨t0, t1, t2, t3⟩ := hSw
      go_simp
    simp only [Act.put, List.setIfInBounds_toArray, List.set_cons_zero, List.set_cons_succ]
    refine wpAnyS_take (i := 15) (oi := ⟨some 36, _, _, _, _, _⟩) (v := .string x) rfl (by kernel_rfl) (by kernel_rfl) (by kernel_rfl) (by kernel_rfl) (fun _ _ _ h => Norm.panic h) (Or.inl ⟨by rfl, ?_⟩) (by assumption) ?_
    · intro w' hSw
      obtain ⟨t0, t1, t2, t3⟩ := hSw
      go_simp
    simp only [Act.put, List.setIfInBounds_toArray, List.set_cons_zero, List.set_cons_succ]
    refine wpAnyS_take (i := 9) (oi := ⟨some 30, _, _, _, _, _⟩) (v := .string (n ++ ⟨#[91]⟩ ++ t)) rfl (by kernel_rfl) (by kernel_rfl) (by kernel_rfl) (by kernel_rfl) (fun _ _ _ h => Norm.panic h) (Or.inl ⟨by rfl, ?_⟩) (by assumption) ?_
    · intro w' hSw
      obtain ⟨t0, t1, t2, t3⟩ := hSw
      go_simp
    simp only [Act.put, List.setIfInBounds_toArray, List.set_cons_zero, List.set_cons_succ]
    refine wpAnyS_take (i := 10) (oi := ⟨some 31, _, _, _, _, _⟩) (v := .string (n ++ ⟨#[91]⟩ ++ t ++ ⟨#[47]⟩)) rfl (by kernel_rfl) (by kernel_rfl) (by kernel_rfl) (by kernel_rfl) (fun _ _ _ h => Norm.panic h) (Or.inl ⟨by rfl, ?_⟩) (by assumption) ?_
    · intro w' hSw
      obtain ⟨t0, t1, t2, t3⟩ := hSw
      go_simp
    simp only [Act.put, List.setIfInBounds_toArray, List.set_cons_zero, List.set_cons_succ]
    refine wpAnyS_take (i := 16) (oi := ⟨some 37, _, _, _, _, _⟩) (v := .string (n ++ ⟨#[91]⟩ ++ t ++ ⟨#[47]⟩ ++ x)) rfl (by kernel_rfl) (by kernel_rfl) (by kernel_rfl) (by kernel_rfl) (fun _ _ _ h => Norm.panic h) (Or.inl ⟨by rfl, ?_⟩) (by assumption) ?_
    · intro w' hSw
      obtain ⟨t0, t1, t2, t3⟩ := hSw
      go_simp
    simp only [Act.put, List.setIfInBounds_toArray, List.set_cons_zero, List.set_cons_succ]
    refine wpAnyS_take (i := 17) (oi := ⟨some 38, _, _, _, _, _⟩) (v := .string (n ++ ⟨#[91]⟩ ++ t ++ ⟨#[47]⟩ ++ x ++ ⟨#[93]⟩)) rfl (by kernel_rfl) (by kernel_rfl) (by kernel_rfl) (by kernel_rfl) (fun _ _ _ h => Norm.panic h) (Or.inl ⟨by rfl, ?_⟩) (by assumption) ?_
    · intro w' hSw
      obtain ⟨t0, t1, t2, t3⟩ := hSw
      go_simp
    simp only [Act.put, List.setIfInBounds_toArray, List.set_cons_zero, List.set_cons_succ]
    refine wpAnyS_one (i := 18) (oi := ⟨some 39, _, _, _, _, _⟩) rfl (by kernel_rfl) (by rfl) (fun K hK => ?_)
    go_simp
    have hbdX : Bw X.drew B b v l := HBD.out.keep fun k _ => rfl
    have hzX : X.drew.heap.size = X.heap.size := rfl
    have hl9 := HLEN.out
    have hb9 : B ≤ X.drew.heap.size := hBX
    generalize hss : n ++ ⟨#[91]⟩ ++ t ++ ⟨#[47]⟩ ++ x ++ ⟨#[93]⟩ = s at hl9 ⊢
    have HSS := Lib.hid hss
    clear hss
    refine (wrS hbdX s hl9 hb9).mono ?_
    rintro e w6 ⟨rfl, v6, e1, e2, e3⟩
    have hHeld := (⟨(e2.cell (p := ⟨w.heap.size, 1, none⟩) bz fun h => absurd (HLT.out _ h) (Nat.lt_irrefl _)).trans hHeld.c1, (e2.cell (p := ⟨w.heap.size, 2, none⟩) bz fun h => absurd (HLT.out _ h) (Nat.lt_irrefl _)).trans hHeld.c2,
      (e2.cell (p := ⟨q, o + 1, none⟩) (by show q < _; omega) fun h => by have := HGE.out q h; omega).trans hHeld.d0, (e2.cell (p := ⟨q, o + 3 + 1, none⟩) (by show q < _; omega) fun h => by have := HGE.out q h; omega).trans hHeld.d1⟩ : BaS w.heap.size q o n x t (.slice (some ⟨q, o, none⟩) 2 k1) w6)
    refine hK _ _ (fun _ => hHeld) ?_
    clear hK K
    simp only [Act.put, List.setIfInBounds_toArray, List.set_cons_zero, List.set_cons_succ]
    refine wpAnyS_done (by kernel_rfl) ?_
    refine Norm.normal ?_
    have hF := Lib.hid (Wr.ahead HB.out (Nat.le_refl _) (Wr.ahead (w1 := X.drew) (n := X.heap.size) (Below.drew (Below.refl _ _)) (Nat.le_refl _) ⟨v6, e1, e2, e3⟩))
    clear e1 e2 e3 hHeld hbdX
    go_wp2_with fail
    go_end0
    exact ⟨rfl, by rw [HSS.out]; exact hF.out⟩
  | qua => simp [Fo.sub] at hsub
  | una => simp [Fo.sub] at hsub
  | bin => simp [Fo.sub] at hsub
end Go.Proofs.YtdapnjnmhkdnpaaDoor.Fb
