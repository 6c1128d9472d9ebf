/-
  Plain facts on tables one behind the other.
-/
import Derived.Test.YtfiailnlkhonnabOverSpec0
namespace Go.Proofs.Ytfiailnlkhonnab

theorem getD_over (eb ec : List E3) (j : Nat) : (overT eb ec).getD j (false, 0, false) = overE (eb.getD j (false, 0, false)) ec := by
  by_cases h : j < eb.length
  · exact overT_get eb ec j h
  · have h1 : eb.getD j (false, 0, false) = (false, 0, false) := by simp [List.getD_eq_getElem?_getD, List.getElem?_eq_none (Nat.le_of_not_lt h)]
    have h2 : (overT eb ec).getD j (false, 0, false) = (false, 0, false) := by
      have : (overT eb ec).length ≤ j := by simp [overT]; omega
      simp [List.getD_eq_getElem?_getD, List.getElem?_eq_none this]
    rw [h1, h2]; rfl

theorem over_three (x : E3) (eb ec : List E3) : overE (overE x eb) ec = overE x (overT eb ec) := by
  obtain ⟨xh, xp, xw⟩ := x
  cases xh
  · rfl
  · simp only [overE, cond_true, getD_over]
    generalize eb.getD xp.toNat (false, 0, false) = y
    obtain ⟨yh, yp, yw⟩ := y
    cases yh
    · rfl
    · simp only [cond_true]
      generalize ec.getD yp.toNat (false, 0, false) = z
      obtain ⟨zh, zp, zw⟩ := z
      cases zh
      · rfl
      · simp [Bool.and_assoc]

theorem overT_three (ea eb ec : List E3) : overT (overT ea eb) ec = overT ea (overT eb ec) := by
  simp only [overT, List.map_map]
  apply List.map_congr_left
  intro x _
  exact over_three x eb ec

theorem overT_len (ea eb : List E3) : (overT ea eb).length = ea.length := by simp [overT]

theorem overT_ok (ea eb : List E3) (hB : eb.all okE = true) : (overT ea eb).all okE = true := by
  rw [List.all_eq_true]
  intro y hy
  simp only [overT, List.mem_map] at hy
  obtain ⟨x, _, rfl⟩ := hy
  obtain ⟨xh, xp, xw⟩ := x
  cases xh
  · rfl
  · simp only [overE, cond_true]
    by_cases h : xp.toNat < eb.length
    · have hm : eb.getD xp.toNat (false, 0, false) ∈ eb := by rw [List.getD_eq_getElem?_getD, List.getElem?_eq_getElem h]; exact List.getElem_mem h
      have := (List.all_eq_true.mp hB) _ hm
      generalize eb.getD xp.toNat (false, 0, false) = z at this
      obtain ⟨zh, zp, zw⟩ := z
      cases zh
      · rfl
      · simpa [okE] using this
    · have h1 : eb.getD xp.toNat (false, 0, false) = (false, 0, false) := by simp [List.getD_eq_getElem?_getD, List.getElem?_eq_none (Nat.le_of_not_lt h)]
      rw [h1]; rfl

/-- The table in which each page is itself. -/
def sameT : List E3 := [(true, 0, true), (true, 1, true), (true, 2, true), (true, 3, true), (true, 4, true), (true, 5, true)]

theorem sameT_get (p : Int) (h0 : 0 ≤ p) (h5 : p ≤ 5) : sameT.getD p.toNat (false, 0, false) = (true, p, true) := by
  have : p = 0 ∨ p = 1 ∨ p = 2 ∨ p = 3 ∨ p = 4 ∨ p = 5 := by omega
  rcases this with rfl | rfl | rfl | rfl | rfl | rfl <;> rfl

theorem over_same (ea : List E3) (hA : ea.all okE = true) : overT ea sameT = ea := by
  have : ea.map (fun x => overE x sameT) = ea.map id := by
    apply List.map_congr_left
    intro x hx
    have hok := (List.all_eq_true.mp hA) _ hx
    obtain ⟨xh, xp, xw⟩ := x
    cases xh
    · have hh : xp = 0 ∧ xw = false := by simpa [okE] using hok
      obtain ⟨rfl, rfl⟩ := hh
      rfl
    · have hh : 0 ≤ xp ∧ xp ≤ 5 := by simpa [okE] using hok
      simp only [overE, cond_true, sameT_get xp hh.1 hh.2, Bool.true_and, id]
  simpa [overT] using this

theorem same_over (ea : List E3) (hl : ea.length = 6) (hA : ea.all okE = true) : overT sameT ea = ea := by
  match ea, hl with
  | [x0, x1, x2, x3, x4, x5], _ =>
    have canon : ∀ x : E3, okE x = true → (bif x.1 then (true, x.2.1, x.2.2 && true) else (false, (0 : Int), false)) = x := by
      intro x hok
      obtain ⟨xh, xp, xw⟩ := x
      cases xh
      · have hh : xp = 0 ∧ xw = false := by simpa [okE] using hok
        obtain ⟨rfl, rfl⟩ := hh
        rfl
      · simp
    simp only [List.all_cons, List.all_nil, Bool.and_true, Bool.and_eq_true] at hA
    obtain ⟨h0, h1, h2, h3, h4, h5⟩ := hA
    have e0 := canon x0 h0
    have e1 := canon x1 h1
    have e2 := canon x2 h2
    have e3 := canon x3 h3
    have e4 := canon x4 h4
    have e5 := canon x5 h5
    show [(bif x0.1 then (true, x0.2.1, x0.2.2 && true) else (false, (0 : Int), false)), (bif x1.1 then (true, x1.2.1, x1.2.2 && true) else (false, (0 : Int), false)), (bif x2.1 then (true, x2.2.1, x2.2.2 && true) else (false, (0 : Int), false)), (bif x3.1 then (true, x3.2.1, x3.2.2 && true) else (false, (0 : Int), false)), (bif x4.1 then (true, x4.2.1, x4.2.2 && true) else (false, (0 : Int), false)), (bif x5.1 then (true, x5.2.1, x5.2.2 && true) else (false, (0 : Int), false))] = [x0, x1, x2, x3, x4, x5]
    rw [e0, e1, e2, e3, e4, e5]
end Go.Proofs.Ytfiailnlkhonnab
