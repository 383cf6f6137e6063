/-
  The chapter's example: what the functions say of it, as plain mathematics.
-/
import Derived.Test.YtnadjkofjgpabaaDoorFmInOrd
import Derived.Test.YtnadjkofjgpabaaDoorFmFunc
import Derived.Test.YtnadjkofjgpabaaDoorFmAt
import Derived.Test.YtnadjkofjgpabaaDoorFmPts
namespace Go.Proofs.YtnadjkofjgpabaaDoor.Fm
open Go Go.RowKit Go.Shelf
set_option linter.unusedVariables false
set_option linter.unusedSimpArgs false
def tX : Tm := .mk true ⟨#[120]⟩ []
def tA : Tm := .mk false ⟨#[97]⟩ []
def tF : Tm := .mk false ⟨#[102]⟩ [tA]
def fP : Fo := .mk 1 ⟨#[80]⟩ [tX, tF] []
def fQ : Fo := .mk 1 ⟨#[81]⟩ [] []
def fN : Fo := .mk 3 ⟨#[]⟩ [] [fQ]
def fA : Fo := .mk 4 ⟨#[]⟩ [] [fP, fN]
def exF : Fo := .mk 9 ⟨#[120]⟩ [] [fA]
theorem Fo.all_mk (lv op : Int) (n : ByteArray) (a : List Tm) (l : List Fo) : (Fo.mk op n a l).all lv = (lv, .mk op n a l) :: l.flatMap fun f => f.all (wrap64 (lv + 1)) := Fo.all_eq lv _
theorem Tm.all_mk (lv : Int) (v : Bool) (n : ByteArray) (l : List Tm) : (Tm.mk v n l).all lv = (lv, .mk v n l) :: l.flatMap fun t => t.all (wrap64 (lv + 1)) := Tm.all_eq lv _
theorem n2 : wrap64 (1 + 1) = 2 := by unfold wrap64; omega
theorem n3 : wrap64 (2 + 1) = 3 := by unfold wrap64; omega
theorem n4 : wrap64 (3 + 1) = 4 := by unfold wrap64; omega
theorem n5 : wrap64 (4 + 1) = 5 := by unfold wrap64; omega
theorem m2 : wrap64 2 = 2 := by unfold wrap64; omega
theorem m3 : wrap64 3 = 3 := by unfold wrap64; omega
theorem m4 : wrap64 4 = 4 := by unfold wrap64; omega
theorem m5 : wrap64 5 = 5 := by unfold wrap64; omega
theorem ex_all : exF.all 1 = [(1, exF), (2, fA), (3, fP), (3, fN), (4, fQ)] := by
  simp only [n2, n3, n4, exF, fA, fP, fN, fQ, Fo.all_mk, List.flatMap_cons, List.flatMap_nil, List.append_nil, List.cons_append, List.nil_append]
theorem ex_terms : termsL exF = [(4, tX), (4, tF), (5, tA)] := by
  rw [termsL, ex_all]
  simp [m2, m3, m4, m5, termsOf, exF, fA, fP, fN, fQ, Fo.args, Tm.all_mk, tX, tF, tA]
theorem ex_levels : levelsL exF = [1, 2, 3, 3, 4, 4, 4, 5] := by
  rw [levelsL, ex_all, ex_terms]; simp
theorem ex_preds : predsL exF = [(⟨#[80]⟩, 2), (⟨#[81]⟩, 0)] := by
  rw [predsL, ex_all]; simp [predOf, exF, fA, fP, fN, fQ, Fo.op, Fo.n, Fo.args, tX, tF]
theorem ex_funcs : funcsL exF = [(⟨#[102]⟩, 1), (⟨#[97]⟩, 0)] := by
  rw [funcsL, ex_terms]; simp [funcOf, tX, tF, tA, Tm.v, Tm.n, Tm.args]
theorem lt_one (a b : UInt8) (i j : Int) (h : a.toNat < b.toNat) : Go.Proofs.ltOf cmpSy (⟨#[a]⟩, i) (⟨#[b]⟩, j) = true ∧ Go.Proofs.ltOf cmpSy (⟨#[b]⟩, j) (⟨#[a]⟩, i) = false := by
  have h1 : cmpSy (⟨#[a]⟩, i) (⟨#[b]⟩, j) = -1 := by
    have h2 : cmpS ⟨#[a]⟩ ⟨#[b]⟩ = -1 := by
      rw [cmpS_L, ByteArray.toList_eq, ByteArray.toList_eq]
      have : (a.toNat : Int) < b.toNat := by omega
      simp [cmpL, cmpI, lex, this]
    simp [cmpSy, h2, lex]
  have h3 := cmpSy_neg (⟨#[b]⟩, j) (⟨#[a]⟩, i)
  rw [h1] at h3
  unfold Go.Proofs.ltOf
  rw [h1, h3]
  decide
theorem ex_srt1 : srt [((⟨#[80]⟩ : ByteArray), (2 : Int)), (⟨#[81]⟩, 0)] = [(⟨#[80]⟩, 2), (⟨#[81]⟩, 0)] := by
  have h := lt_one 80 81 2 0 (by decide)
  unfold srt
  simp [List.mergeSort, List.MergeSort.Internal.splitInTwo, List.merge, h.1, h.2]
theorem ex_srt2 : srt [((⟨#[102]⟩ : ByteArray), (1 : Int)), (⟨#[97]⟩, 0)] = [(⟨#[97]⟩, 0), (⟨#[102]⟩, 1)] := by
  have h := lt_one 97 102 0 1 (by decide)
  unfold srt
  simp [List.mergeSort, List.MergeSort.Internal.splitInTwo, List.merge, h.1, h.2]
theorem ex_depth : depthL exF = 5 := by simp [depthL, ex_levels, mx]
theorem ex_fits (n d : Int) (hn : 8 ≤ n) (hd : 5 ≤ d) : fitsB exF n d = true := by
  simp [fitsB, ex_levels]; omega
theorem v_x : varB ⟨#[120]⟩ = true := by decide +kernel
theorem p_P : predB ⟨#[80]⟩ = true := by decide +kernel
theorem p_Q : predB ⟨#[81]⟩ = true := by decide +kernel
theorem f_a : fnB ⟨#[97]⟩ = true := by
  rw [fnB, show namesB 97 116 lodB ⟨#[97]⟩ = true by decide +kernel]
  simp [wordB, ByteArray.toList_eq]
theorem f_f : fnB ⟨#[102]⟩ = true := by
  rw [fnB, show namesB 97 116 lodB ⟨#[102]⟩ = true by decide +kernel]
  simp [wordB, ByteArray.toList_eq]
theorem r_X : tX.right false = true := by rw [Tm.right_eq]; simp [tX, varT, Tm.v, Tm.n, Tm.args, v_x]
theorem r_A : tA.right false = true := by rw [Tm.right_eq]; simp [tA, Tm.v, Tm.n, Tm.args, f_a]
theorem r_F : tF.right false = true := by rw [Tm.right_eq]; simp [tF, Tm.v, Tm.n, Tm.args, f_f, r_A]
theorem e_nil : (⟨#[]⟩ : ByteArray).toList.isEmpty = true := by simp [ByteArray.toList_eq]
theorem s_P : satB false fP = true := by simp [satB, headB, tailB, fP, Fo.op, Fo.n, Fo.args, Fo.sub, rowOf, rowsL, nameB, p_P, r_X, r_F]
theorem s_Q : satB false fQ = true := by simp [satB, headB, tailB, fQ, Fo.op, Fo.n, Fo.args, Fo.sub, rowOf, rowsL, nameB, p_Q]
theorem s_N : satB false fN = true := by simp only [satB, headB, tailB, fN, Fo.op, Fo.n, Fo.args, Fo.sub, rowOf, rowsL, nameB, e_nil]; simp
theorem s_A : satB false fA = true := by simp only [satB, headB, tailB, fA, Fo.op, Fo.n, Fo.args, Fo.sub, rowOf, rowsL, nameB, e_nil]; simp
theorem s_E : satB false exF = true := by simp [satB, headB, tailB, exF, Fo.op, Fo.n, Fo.args, Fo.sub, rowOf, rowsL, nameB, v_x]
theorem ex_right : rightB false exF = true := by
  simp only [rightB, ex_fits 400 40 (by omega) (by omega), allB, ex_all, Bool.true_and]
  simp [s_P, s_Q, s_N, s_A, s_E]
theorem ex_at : atF exF [0, 1, 0] = some fQ := by
  simp [atF, exF, fA, fP, fN, Fo.sub]
theorem fine_of (f : Fo) (h1 : ∀ x ∈ f.all 1, 0 ≤ x.1 ∧ x.1 ≤ 100) (h2 : ∀ x ∈ termsL f, 0 ≤ x.1 ∧ x.1 ≤ 100) (h3 : (levelsL f).length ≤ 100) : Fine f :=
  ⟨fun x hx => by have := h1 x hx; omega, fun x hx => by have := h2 x hx; omega, by omega⟩
theorem A_all : fA.all 1 = [(1, fA), (2, fP), (2, fN), (3, fQ)] := by
  simp only [n2, n3, fA, fP, fN, fQ, Fo.all_mk, List.flatMap_cons, List.flatMap_nil, List.append_nil, List.cons_append, List.nil_append]
theorem P_all (lv : Int) : fP.all lv = [(lv, fP)] := by simp only [fP, Fo.all_mk, List.flatMap_nil]
theorem N_all : fN.all 1 = [(1, fN), (2, fQ)] := by
  simp only [n2, fN, fQ, Fo.all_mk, List.flatMap_cons, List.flatMap_nil, List.append_nil]
theorem Q_all (lv : Int) : fQ.all lv = [(lv, fQ)] := by simp only [fQ, Fo.all_mk, List.flatMap_nil]
theorem A_terms : termsL fA = [(3, tX), (3, tF), (4, tA)] := by
  rw [termsL, A_all]; simp [m2, m3, m4, m5, termsOf, fA, fP, fN, fQ, Fo.args, Tm.all_mk, tX, tF, tA]
theorem P_terms : termsL fP = [(2, tX), (2, tF), (3, tA)] := by
  rw [termsL, P_all]; simp [m2, m3, m4, m5, termsOf, fP, Fo.args, Tm.all_mk, tX, tF, tA]
theorem N_terms : termsL fN = [] := by
  rw [termsL, N_all]; simp [m2, m3, m4, m5, termsOf, fN, fQ, Fo.args]
theorem Q_terms : termsL fQ = [] := by
  rw [termsL, Q_all]; simp [m2, m3, m4, m5, termsOf, fQ, Fo.args]
theorem ex_fine : Fine exF := fine_of _ (by rw [ex_all]; simp) (by rw [ex_terms]; simp) (by rw [ex_levels]; simp)
theorem A_fine : Fine fA := fine_of _ (by rw [A_all]; simp) (by rw [A_terms]; simp) (by rw [levelsL, A_all, A_terms]; simp)
theorem P_fine : Fine fP := fine_of _ (by rw [P_all]; simp) (by rw [P_terms]; simp) (by rw [levelsL, P_all, P_terms]; simp)
theorem N_fine : Fine fN := fine_of _ (by rw [N_all]; simp) (by rw [N_terms]; simp) (by rw [levelsL, N_all, N_terms]; simp)
theorem Q_fine : Fine fQ := fine_of _ (by rw [Q_all]; simp) (by rw [Q_terms]; simp) (by rw [levelsL, Q_all, Q_terms]; simp)
theorem ex_fines : ∀ x ∈ exF.all 1, Fine x.2 := by
  rw [ex_all]; simp [ex_fine, A_fine, P_fine, N_fine, Q_fine]
theorem ex_nodup : ((exF.all 1).map fun x => cnt x.2).Nodup := by
  have h1 : (levelsL fA).length = 7 := by rw [levelsL, A_all, A_terms]; rfl
  have h2 : (levelsL fP).length = 4 := by rw [levelsL, P_all, P_terms]; rfl
  have h3 : (levelsL fN).length = 2 := by rw [levelsL, N_all, N_terms]; rfl
  have h4 : (levelsL fQ).length = 1 := by rw [levelsL, Q_all, Q_terms]; rfl
  have h0 : (levelsL exF).length = 8 := by rw [ex_levels]; rfl
  rw [ex_all]
  simp only [cnt, List.map_cons, List.map_nil, h0, h1, h2, h3, h4]
  decide
theorem ex_len : (exF.all 1).length = 5 := by rw [ex_all]; rfl
theorem w1 : varB ⟨#[120, 49, 48]⟩ = true := by decide +kernel
theorem w2 : varB ⟨#[120, 121]⟩ = false := by decide +kernel
theorem w3 : fnB ⟨#[110, 101, 120, 116, 49]⟩ = true := by
  rw [fnB, show namesB 97 116 lodB ⟨#[110, 101, 120, 116, 49]⟩ = true by decide +kernel]
  simp [wordB, ByteArray.toList_eq]
theorem w4 : fnB ⟨#[97, 108, 108]⟩ = false := by
  rw [fnB]
  simp [wordB, ByteArray.toList_eq]
theorem ex0 : (⟨#[63, 116]⟩ : ByteArray).extract 0 1 = ⟨#[63]⟩ ∧ (⟨#[63, 116]⟩ : ByteArray).extract 1 2 = ⟨#[116]⟩ ∧ (⟨#[63, 117]⟩ : ByteArray).extract 0 1 = ⟨#[63]⟩ ∧ (⟨#[63, 117]⟩ : ByteArray).extract 1 2 = ⟨#[117]⟩ := by decide +kernel
theorem w5 : (metaB predB ⟨#[63, 116]⟩ || metaB fnB ⟨#[63, 116]⟩) = true := by
  have hm : markB ⟨#[63, 116]⟩ = true := by simp only [markB, ex0.1]; rw [ByteArray.toList_eq]; decide +kernel
  have hc : cutR ⟨#[63, 116]⟩ = ⟨#[116]⟩ := by rw [cutR, hm]; exact ex0.2.1
  have hf : fnB ⟨#[116]⟩ = true := by
    rw [fnB, show namesB 97 116 lodB ⟨#[116]⟩ = true by decide +kernel]
    simp [wordB, ByteArray.toList_eq]
  rw [metaB, metaB, hm, hc, hf]
  decide +kernel
theorem w6 : (metaB predB ⟨#[63, 117]⟩ || metaB fnB ⟨#[63, 117]⟩) = false := by
  have hm : markB ⟨#[63, 117]⟩ = true := by simp only [markB, ex0.2.2.1]; rw [ByteArray.toList_eq]; decide +kernel
  have hc : cutR ⟨#[63, 117]⟩ = ⟨#[117]⟩ := by rw [cutR, hm]; exact ex0.2.2.2
  have hf : fnB ⟨#[117]⟩ = false := by
    rw [fnB, show namesB 97 116 lodB ⟨#[117]⟩ = false by decide +kernel]
    rfl
  rw [metaB, metaB, hm, hc, hf]
  decide +kernel
end Go.Proofs.YtnadjkofjgpabaaDoor.Fm
