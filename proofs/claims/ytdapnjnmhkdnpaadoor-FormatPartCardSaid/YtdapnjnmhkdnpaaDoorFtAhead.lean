/-
  The contract of ahead: what stands ahead of the only part of a formula.
-/
import Derived.Test.YtdapnjnmhkdnpaaDoorFtBasic
import Derived.Test.YtdapnjnmhkdnpaaDoorFtSigns
namespace Go.Proofs.YtdapnjnmhkdnpaaDoor.Fb
open Go Go.RowKit Go.Shelf Go.Proofs.YtdapnjnmhkdnpaaDoor.Fm Go.Proofs.YtdapnjnmhkdnpaaDoor.Lx Go.Proofs.YtdapnjnmhkdnpaaDoor.Ps Go.Proofs.YtdapnjnmhkdnpaaDoor.Ft
set_option linter.unusedVariables false
set_option linter.unusedSimpArgs false
theorem sgT_node {k : Nat} (h3 : 3 ≤ k) (h4 : k ≤ 14) : sgT (k : Int) = sgW (k : Int) := by
  unfold sgT
  rw [if_neg (by omega)]
theorem ahB_eq (o : Int) (n : ByteArray) (a : List Tm) (s : List Fo) : ahB (.mk o n a s) = (sgW o).data.toList ++ ((if spW o then [32] else []) ++ (if n.size = 0 then [] else n.data.toList ++ [32])) := rfl
set_option maxHeartbeats 4000000 in
set_option maxRecDepth 20000 in
theorem ahead_c (k : Nat) (h3 : 3 ≤ k) (h4 : k ≤ 14) (n : ByteArray) (a : List Tm) (s : List Fo) (hn16 : n.size ≤ 16) (w : World) (B b dn : Nat) (v v0 v1 v2 v3 : Value) (l : Bs) (hbd : Bw w B b v l) (hf : FoV dn w v0 v1 v2 v3 (.mk (k : Int) n a s)) (hd : dn ≤ B) (hBw : B ≤ w.heap.size)
    (hT : STab w) (hTo : ¬ Ob b v 0) (hlen : l.length + 100 ≤ 140737488355328) :
    Calls Tryd.prog 51 #[.pointer (some ⟨b, 0, none⟩), .agg #[v0, v1, v2, v3]] w fun e w' => e = .returned (.tuple #[]) ∧ Wr B b v l w w' (ahB (.mk (k : Int) n a s)) := by
  have hb0 : Below w.heap.size w (w.alloc (.cells #[v0, v1, v2, v3] 25)) := (Below.refl _ _).alloc (Nat.le_refl _) _
  have hbd0 := hbd.below hb0 (Nat.le_refl _)
  have hBX : B ≤ (w.alloc (.cells #[v0, v1, v2, v3] 25)).heap.size := by simp; omega
  have hT0 := hT.keep (hb0.block _ hT.1) hb0.size
  obtain ⟨R, hR⟩ : ∃ R, ahB (.mk (k : Int) n a s) = R := ⟨_, rfl⟩
  rw [hR]
  rw [ahB_eq] at hR
  obtain ⟨rfl, _, rfl, hok, hA, hS⟩ := hf
  obtain ⟨⟨a1, k1, rfl⟩, _⟩ := hA.form
  obtain ⟨⟨a2, k2, rfl⟩, _⟩ := hS.form
  simp only [op_mk, n_mk, args_mk, sub_mk] at *
  obtain ⟨s0, s1, s2, s3⟩ := hT0.2 k (by omega) (by omega)
  rw [sgT_node h3 h4] at s0
  have hz := hT0.1
  have n1 : (k : Int) < 17 := by omega
  obtain ⟨b0, b1, b2, b3, bz⟩ := box4 w (.int .u8 (k : Int)) (.string n) (.slice a1 a.length k1) (.slice a2 s.length k2) 25
  have hsg : (sgW (k : Int)).size ≤ 6 := sg_le _
  generalize sgW (k : Int) = sg at *
  generalize (str (k : Int)) = st at *
  generalize (frR (k : Int)) = fr at *
  generalize hsp : spW (k : Int) = sp at *
  have hXs : (w.alloc (.cells #[.int .u8 (k : Int), .string n, .slice a1 a.length k1, .slice a2 s.length k2] 25)).heap.size = w.heap.size + 1 := by simp
  have hbY : Below (w.alloc (.cells #[.int .u8 (k : Int), .string n, .slice a1 a.length k1, .slice a2 s.length k2] 25)).heap.size (w.alloc (.cells #[.int .u8 (k : Int), .string n, .slice a1 a.length k1, .slice a2 s.length k2] 25)) ((w.alloc (.cells #[.int .u8 (k : Int), .string n, .slice a1 a.length k1, .slice a2 s.length k2] 25)).alloc (.cells #[.string sg, .bool sp, .int .i64 (st : Nat), .bool fr] 88)) := (Below.refl _ _).alloc (Nat.le_refl _) _
  obtain ⟨y0, y1, y2, y3, yz⟩ := box4 (w.alloc (.cells #[.int .u8 (k : Int), .string n, .slice a1 a.length k1, .slice a2 s.length k2] 25)) (.string sg) (.bool sp) (.int .i64 (st : Nat)) (.bool fr) 88
  have hbdY := hbd0.below hbY (Nat.le_refl _)
  have hc1 : ((w.alloc (.cells #[.int .u8 (k : Int), .string n, .slice a1 a.length k1, .slice a2 s.length k2] 25)).alloc (.cells #[.string sg, .bool sp, .int .i64 (st : Nat), .bool fr] 88)).cell? ⟨w.heap.size, 1, none⟩ = some (.string n) := (hbY.cell (p := ⟨w.heap.size, 1, none⟩) bz).trans b1
  have HC := Lib.hid (wrS hbdY sg (by omega) (by omega))
  have HB := Lib.hid (hb0.trans (hbY.mono hb0.size))
  have HLT := Lib.hid hbd.lt
  have HR := Lib.hid hR
  have HY := Lib.hid (⟨y0, y1, hc1, yz⟩ : _ ∧ _ ∧ _ ∧ _)
  have HS := Lib.hid (show ((w.alloc (.cells #[.int .u8 (k : Int), .string n, .slice a1 a.length k1, .slice a2 s.length k2] 25)).alloc (.cells #[.string sg, .bool sp, .int .i64 (st : Nat), .bool fr] 88)).heap.size = w.heap.size + 2 by simp)
  clear hbd hbd0 hA hS hok hT hT0 hTo hbdY hb0 hbY b0 b1 b2 b3 y0 y1 y2 y3 yz hc1 hsp hXs hR
  go_enter Tryd.func51, Tryd.ntmps51
  go_wp2_with fail
  obtain ⟨y0, y1, c1, yz⟩ := HY.out
  have hsz := HS.out
  have hB := HB.out
  have hC := HC.out
  rw [World.size_alloc] at y0 y1
  clear HY HS HB HC s0 s1 s2 s3 bz
  generalize ((w.alloc (.cells #[.int .u8 (k : Int), .string n, .slice a1 a.length k1, .slice a2 s.length k2] 25)).alloc (.cells #[.string sg, .bool sp, .int .i64 (st : Nat), .bool fr] 88)) = Y at *
  have HB := Lib.hid hB
  refine hC.mono ?_
  rintro e w1 ⟨rfl, v1, e1, e2, e3⟩
  have hz1 := e2.size
  have hO : ∀ q, Ob b v q → q < w.heap.size := HLT.out
  have hO1 : ∀ q, Ob b v1 q → q < w.heap.size ∨ w.heap.size + 2 ≤ q := fun q hq => (e3 q hq).elim (fun h => .inl (hO q h)) fun h => .inr (by omega)
  have y1 := (e2.cell (p := ⟨w.heap.size + 1, 1, none⟩) (by show w.heap.size + 1 < _; omega) fun h => by have := hO (w.heap.size + 1) h; omega).trans y1
  have c1 := (e2.cell (p := ⟨w.heap.size, 1, none⟩) (by show w.heap.size < _; omega) fun h => absurd (hO w.heap.size h) (Nat.lt_irrefl _)).trans c1
  have HE := Lib.hid (⟨e1, e2, e3⟩ : _ ∧ _ ∧ _)
  have HO1 := Lib.hid hO1
  clear hC e1 e2 e3 hO y0 hB hO1
  have w9 : ¬ 9223372036854775807 < n.size + 1 := by omega
  cases sp with
  | false =>
    by_cases hn0 : n.size = 0
    · obtain rfl : n = ⟨#[]⟩ := by obtain ⟨d⟩ := n; have h : d.size = 0 := hn0; rw [Array.eq_empty_of_size_eq_zero h]
      have hF := Lib.hid (show Wr B b v l w w1 (sg.data.toList ++ ([])) from by
        obtain ⟨e1, e2, e3⟩ := HE.out
        have h := Wr.ahead HB.out (Nat.le_refl _) (⟨v1, e1, e2, e3⟩ : Wr B b v l Y w1 sg.data.toList)
        simpa using h)
      clear HE hn0
      go_wp2_with fail
      go_end0
      exact ⟨rfl, by rw [← HR.out, if_pos (show (⟨#[]⟩ : ByteArray).size = 0 from rfl)]; simpa using hF.out⟩
    · have d1 : n.toList.isEmpty = false := by
        rw [ByteArray.toList_eq]
        cases hl : n.data.toList with
        | nil => exact absurd (by rw [← ba_len, hl]; rfl) hn0
        | cons x y => rfl
      obtain ⟨ns, hns⟩ : ∃ ns, n ++ ⟨#[32]⟩ = ns := ⟨_, rfl⟩
      have hnz : ns.size = n.size + 1 := by rw [← hns, ByteArray.size_append]; rfl
      have HNS := Lib.hid (show ns.data.toList = n.data.toList ++ [32] by rw [← hns]; simp)
      have hc := Lib.hid (wrS HE.out.1 ns (by simp only [List.length_append, ba_len, List.length_cons, List.length_nil]; omega) (by omega))
      have HN0 := Lib.hid hn0
      have HNN := Lib.hid hns
      clear hns hn0 hnz
      go_wp2_with fail
      rw [HNN.out]
      refine hc.out.mono ?_
      rintro e w5 ⟨rfl, hw⟩
      have hF := Lib.hid (show Wr B b v l w w5 (sg.data.toList ++ ns.data.toList) from by
        obtain ⟨e1, e2, e3⟩ := HE.out
        exact Wr.ahead HB.out (Nat.le_refl _) (Wr.trans e2 e3 hw))
      clear HE hc hw
      go_wp2_with fail
      go_end0
      refine ⟨rfl, ?_⟩
      have h := hF.out
      rw [HNS.out] at h
      rw [← HR.out, if_neg HN0.out]
      simpa using h
  | true =>
    have hcb := Lib.hid (wrB HE.out.1 32 (by simp only [List.length_append, ba_len]; omega) (by omega))
    go_wp2_with fail
    refine hcb.out.mono ?_
    rintro e w2 ⟨rfl, v2, f1, f2, f3⟩
    have hz2 := f2.size
    have c1 := (f2.cell (p := ⟨w.heap.size, 1, none⟩) (by show w.heap.size < _; omega) fun h => by have := HO1.out w.heap.size h; omega).trans c1
    have HE2 := Lib.hid (show Bw w2 B b v2 (l ++ (sg.data.toList ++ [32])) ∧ Grow (Ob b v) Y w2 ∧ Sub (Ob b v) Y.heap.size (Ob b v2) from by
      obtain ⟨e1, e2, e3⟩ := HE.out
      exact ⟨by simpa using f1, e2.trans f2 e3, e3.trans f3 e2.size⟩)
    clear f1 f2 f3 hcb HE y1
    by_cases hn0 : n.size = 0
    · obtain rfl : n = ⟨#[]⟩ := by obtain ⟨d⟩ := n; have h : d.size = 0 := hn0; rw [Array.eq_empty_of_size_eq_zero h]
      have hF := Lib.hid (show Wr B b v l w w2 (sg.data.toList ++ [32] ++ ([])) from by
        obtain ⟨e1, e2, e3⟩ := HE2.out
        have h := Wr.ahead HB.out (Nat.le_refl _) (⟨v2, e1, e2, e3⟩ : Wr B b v l Y w2 (sg.data.toList ++ [32]))
        simpa using h)
      clear HE2 hn0
      go_wp2_with fail
      go_end0
      exact ⟨rfl, by rw [← HR.out, if_pos (show (⟨#[]⟩ : ByteArray).size = 0 from rfl)]; simpa using hF.out⟩
    · have d1 : n.toList.isEmpty = false := by
        rw [ByteArray.toList_eq]
        cases hl : n.data.toList with
        | nil => exact absurd (by rw [← ba_len, hl]; rfl) hn0
        | cons x y => rfl
      obtain ⟨ns, hns⟩ : ∃ ns, n ++ ⟨#[32]⟩ = ns := ⟨_, rfl⟩
      have hnz : ns.size = n.size + 1 := by rw [← hns, ByteArray.size_append]; rfl
      have HNS := Lib.hid (show ns.data.toList = n.data.toList ++ [32] by rw [← hns]; simp)
      have hc := Lib.hid (wrS HE2.out.1 ns (by simp only [List.length_append, ba_len, List.length_cons, List.length_nil]; omega) (by omega))
      have HN0 := Lib.hid hn0
      have HNN := Lib.hid hns
      clear hns hn0 hnz
      go_wp2_with fail
      rw [HNN.out]
      refine hc.out.mono ?_
      rintro e w5 ⟨rfl, hw⟩
      have hF := Lib.hid (show Wr B b v l w w5 ((sg.data.toList ++ [32]) ++ ns.data.toList) from by
        obtain ⟨e1, e2, e3⟩ := HE2.out
        exact Wr.ahead HB.out (Nat.le_refl _) (Wr.trans e2 e3 hw))
      clear HE2 hc hw
      go_wp2_with fail
      go_end0
      refine ⟨rfl, ?_⟩
      have h := hF.out
      rw [HNS.out] at h
      rw [← HR.out, if_neg HN0.out]
      simpa using h
end Go.Proofs.YtdapnjnmhkdnpaaDoor.Fb
