/-
  What the program's own HostLoad does.
-/
import Derived.Test.YteelpikhijkmdaaDoorKHostGive0
import Derived.Deep.DeepCutAuto
import Derived.Deep.RegionHeld3
import Derived.Deep.DrawnRows
import Derived.Deep.Light
namespace Go.Proofs.YteelpikhijkmdaaDoor
open Go.RowKit
attribute [local go_sem ↓] Go.wp_at_zero Go.wp_at_succ exec_lod exec_house
attribute [local go_sem] bigNext_ok

theorem implGuestsOk (n : Int) (w : World) : Calls Tryd.prog 33 #[.int .i64 n] w fun e w' => e = .returned (.bool (decide (1 ≤ n) && decide (n ≤ 2))) ∧ w' = w := by
  by_cases h1 : 1 ≤ n
  · by_cases h2 : n ≤ 2
    · rw [show (decide (1 ≤ n) && decide (n ≤ 2)) = true by simp [h1, h2]]
      go_enter Tryd.func33, Tryd.ntmps33
      go_wp2
      go_ret
      exact ⟨rfl, rfl⟩
    · rw [show (decide (1 ≤ n) && decide (n ≤ 2)) = false by simp [h2]]
      go_enter Tryd.func33, Tryd.ntmps33
      go_wp2
      go_ret
      exact ⟨rfl, rfl⟩
  · rw [show (decide (1 ≤ n) && decide (n ≤ 2)) = false by simp [h1]]
    go_enter Tryd.func33, Tryd.ntmps33
    go_wp2
    go_ret
    exact ⟨rfl, rfl⟩

/-- A guest whose pages are loaded, all of them out. -/
def ldG (ms : List (List Int)) (i : Nat) : Gst := ⟨List.replicate 6 noM, (ms.drop (i * 6)).take 6, List.replicate 6 noS⟩
/-- A lodger of noughts. -/
def zeroG : Gst := ⟨List.replicate 6 noM, zeroM 6, List.replicate 6 noS⟩
theorem infoL : (Tryd.prog.info? 77).map (fun i => (i.zero, i.size, i.bytes)) = some (some (.agg (lodC zeroG).toArray), 66, 528) := by kernel_rfl
theorem zeroG_sized : Sized zeroG := ⟨rfl, rfl, fun i hi => by show ((zeroM 6).getD i []).length = 4; rw [zeroM_get hi]; rfl, rfl⟩
theorem make_lods (n : Nat) (hn : n ≤ 1048576) (w : World) :
    (Instr.makeSlice 62 (.int .i64 n) (.int .i64 n)).run Tryd.prog w = .ok (.slice (some ⟨w.heap.size, 0, none⟩) n n) (w.alloc (.cells (madeCells (lodC zeroG).toArray (n * 66)) 77)) := by
  obtain ⟨i0, hi, hz0, hz1, hz2⟩ := info_parts infoL
  have h := run_make (P := Tryd.prog) w 62 77 i0 _ Tryd.underlying62 hi hz0 .i64 .i64 n n (by omega) (by omega) (by rw [hz2]; omega) (by omega)
  rw [hz1] at h
  simpa [Value.cells] using h
theorem range_made (w : World) (cs : List Value) (n : Nat) (t : TypeId) (i : Nat) (hi : i < n) : (w.alloc (.cells (madeCells cs.toArray (n * cs.length)) t)).rangeAt w.heap.size (i * cs.length) cs := fun j v hj => by
  have hl := (List.getElem?_eq_some_iff.1 hj).1
  have hs := size_madeCells cs.toArray (n * cs.length)
  have hlt : i * cs.length + j < n * cs.length := by
    have := Nat.mul_le_mul_right cs.length (show i + 1 ≤ n by omega)
    rw [Nat.add_mul] at this
    omega
  have hel : (madeCells cs.toArray (n * cs.length))[i * cs.length + j]'(by omega) = v := by
    simp only [madeCells, Array.getElem_map, Array.getElem_range]
    have : (i * cs.length + j) % cs.length = j := by rw [Nat.mul_comm, Nat.mul_add_mod]; exact Nat.mod_eq_of_lt hl
    simp only [List.size_toArray, this]
    simp [hl, (List.getElem?_eq_some_iff.1 hj).2]
  simp [hs, hlt, hel]
/-- The making, building and storing of a house, kept shut. -/
def bigAlloc (P : Program) (t : TypeId) (w : World) : Result Value := (Instr.alloc t true (.tuple #[])).run P w
def bigBuild (P : Program) (t : TypeId) (parts : Array (Nat × Value)) (w : World) : Result Value := (Instr.build t parts).run P w
def bigStore (P : Program) (t : TypeId) (a v : Value) (w : World) : Result Unit := (Instr.storeAt t a v).run P w
def bigSkip : Result Unit → Result Next
  | .ok _ w => .ok .skip w
  | .halt h w => .halt h w
theorem bigSkip_ok (v : Unit) (w : World) : bigSkip (.ok v w) = .ok .skip w := rfl
theorem exec_allocH (ρ : Operand → Value) (dst : Option Tmp) (ty : TypeId) (pos : String) (after : Array _) (guard : Option _) (w : World) :
    (execOp ρ ⟨dst, .alloc 67, ty, pos, after, guard⟩).run Tryd.prog w = bigNext (bigAlloc Tryd.prog 67 w) := by
  unfold bigAlloc execOp
  simp only [Sem.run_bind]
  cases (Instr.alloc 67 true (.tuple #[])).run Tryd.prog w <;> rfl
theorem exec_buildH (ρ : Operand → Value) (dst : Option Tmp) (ty : TypeId) (pos : String) (after : Array _) (guard : Option _) (ps : Array (Nat × Operand)) (w : World) :
    (execOp ρ ⟨dst, .build 67 ps, ty, pos, after, guard⟩).run Tryd.prog w = bigNext (bigBuild Tryd.prog 67 (ps.map fun (i, x) => (i, ρ x)) w) := by
  unfold bigBuild execOp
  simp only [Sem.run_bind]
  cases (Instr.build 67 (ps.map fun (i, x) => (i, ρ x))).run Tryd.prog w <;> rfl
theorem exec_storeH (ρ : Operand → Value) (dst : Option Tmp) (ty : TypeId) (pos : String) (after : Array _) (guard : Option _) (x y : Operand) (w : World) :
    (execOp ρ ⟨dst, .store 67 x y, ty, pos, after, guard⟩).run Tryd.prog w = bigSkip (bigStore Tryd.prog 67 (ρ x) (ρ y) w) := by
  unfold bigStore execOp
  simp only [Sem.run_bind]
  cases (Instr.storeAt 67 (ρ x) (ρ y)).run Tryd.prog w <;> rfl
theorem build_house (L n : Nat) (w : World) : bigBuild Tryd.prog 67 #[(1, .slice (some ⟨L, 0, none⟩) n n)] w = .ok (.agg (houseC (zeroM 8) (.slice (some ⟨L, 0, none⟩) n n) 0).toArray) w := by
  kernel_rfl
attribute [local go_sem ↓] exec_allocH exec_buildH exec_storeH
attribute [local go_sem] bigSkip_ok

set_option maxRecDepth 100000 in
set_option maxHeartbeats 8000000 in
theorem implHostLoad_yes (lo hi : Nat) (a : Option Addr) (n cap : Nat) (ms : List (List Int)) (w : World) (h : IsMem w lo hi a (n * 6) ms) (hh : hi ≤ w.heap.size) (ho : okM ms = true) (hn1 : 1 ≤ n) (hn2 : n ≤ 2) :
    Calls Tryd.prog 10 #[.slice a (n * 6) cap] w fun e w' => ∃ vf vg, e = .returned (.tuple #[.agg #[vf, vg, .int .i64 0], .bool true]) ∧ OwnHost w' w.heap.size w'.heap.size vf vg ⟨zeroM 8, (List.range n).map (ldG ms), 0⟩ ∧ Below w.heap.size w w' := by
  have hG := implGuestsOk n
  rw [show (decide ((1 : Int) ≤ (n : Int)) && decide ((n : Int) ≤ 2)) = true by simp; omega] at hG
  obtain ⟨mkL, hmkL⟩ : ∃ c, c = madeCells (lodC zeroG).toArray (n * 66) := ⟨_, rfl⟩
  have hmL : ∀ w : World, (Instr.makeSlice 62 (.int .i64 n) (.int .i64 n)).run Tryd.prog w = .ok (.slice (some ⟨w.heap.size, 0, none⟩) n n) (w.alloc (.cells mkL 77)) := fun w => by rw [hmkL]; exact make_lods n (by omega) w
  go_enter Tryd.func10, Tryd.ntmps10
  go_wp2_with (fail)
  refine (hG _).mono ?_
  rintro e w1 ⟨rfl, rfl⟩
  have B0 : Below w.heap.size w (w.alloc (.cells #[.slice none 0 0, .slice none 0 0, .int .i64 0] 31)) := (Below.refl _ _).alloc (Nat.le_refl _) _
  go_wp2_with (fail)
  refine (sheetsOf_yes lo hi a (n * 6) cap ms _ (h.same (below_sameIn B0 hh)) (Nat.le_trans hh B0.size) (by omega) ho).mono ?_
  rintro e w2 ⟨rfl, S2, R2, l2, B2⟩
  obtain ⟨zH, hzH, hal⟩ := alloc_any 67 34 (by kernel_rfl)
  have hAl : ∀ w : World, bigAlloc Tryd.prog 67 w = .ok (.pointer (some ⟨w.heap.size, 0, none⟩)) (w.alloc (.cells zH 67)) := hal
  obtain ⟨hs, hsE⟩ : ∃ hs, hs = houseC (zeroM 8) (.slice (some ⟨w2.heap.size, 0, none⟩) n n) 0 := ⟨_, rfl⟩
  have hsl : hs.length = 34 := by rw [hsE]; exact houseC_len rfl _ _
  have hs1 : ∀ v ∈ hs, v.oneCell' = true := by
    rw [hsE]
    intro v hv
    simp only [houseC, List.mem_append, List.mem_cons, List.not_mem_nil, or_false] at hv
    rcases hv with hv | rfl | rfl
    · exact sheetsC_one _ v hv
    · rfl
    · rfl
  have HsE : Hid (hs = houseC (zeroM 8) (.slice (some ⟨w2.heap.size, 0, none⟩) n n) 0) := hsE
  have HmkL : Hid (mkL = madeCells (lodC zeroG).toArray (n * 66)) := hmkL
  have hBu : ∀ w : World, bigBuild Tryd.prog 67 #[(1, .slice (some ⟨w2.heap.size, 0, none⟩) n n)] w = .ok (.agg hs.toArray) w := fun w => by rw [hsE]; exact build_house _ _ w
  have hth : ((w2.alloc (.cells mkL 77)).alloc (.cells zH 67)).there (w2.heap.size + 1) 0 hs.toArray.size := by
    have := there_new (w2.alloc (.cells mkL 77)) zH 67
    rw [World.size_alloc, hzH] at this
    simpa [hsl] using this
  have hSt : bigStore Tryd.prog 67 (.pointer (some ⟨w2.heap.size + 1, 0, none⟩)) (.agg hs.toArray) ((w2.alloc (.cells mkL 77)).alloc (.cells zH 67)) = .ok () (((w2.alloc (.cells mkL 77)).alloc (.cells zH 67)).setCells (w2.heap.size + 1) 0 hs) := by
    have := run_storeAt_mid (P := Tryd.prog) _ (w2.heap.size + 1) 0 67 hs.toArray hth (by rw [List.size_toArray, hsl]; kernel_rfl) (all_oneCell_toArray hs1)
    simpa [bigStore] using this
  clear hal hth hsE hmkL
  go_upto_region 7 with fail
  go_cut [7] (fun s wx => s = .pointer (some ⟨w2.heap.size + 1, 0, none⟩) ∧ Hid (wx.rangeAt (w2.heap.size + 1) 0 (houseC (zeroM 8) (.slice (some ⟨w2.heap.size, 0, none⟩) n n) 0)) ∧ Hid (∀ i, i < n → wx.rangeAt w2.heap.size (i * 66) (lodC zeroG)) ∧ Hid (Room wx w2.heap.size (n * 66)) ∧ wx.heap.size = w2.heap.size + 1 + 1 ∧ Hid (Below w2.heap.size w2 wx))
  case first =>
    go_wp2_with (fail)
    go_meet
    go_light
    refine ⟨rfl, ?_, ?_, ?_, ?_, ?_⟩
    · have := World.rangeAt_setCells_same ((w2.alloc (.cells mkL 77)).alloc (.cells zH 67)) (w2.heap.size + 1) 0 hs (by
        have := there_new (w2.alloc (.cells mkL 77)) zH 67
        rw [World.size_alloc, hzH] at this
        rw [hsl]; exact this)
      rw [HsE.out] at this ⊢
      exact this
    · intro i hi
      have h0 := range_made w2 (lodC zeroG) n 77 i hi
      rw [lodC_len zeroG_sized, ← HmkL.out] at h0
      exact World.rangeAt_setCells_apart (World.rangeAt_alloc h0 _) _ _ _ (Or.inl (by omega))
    · have h0 := room_made w2 (lodC zeroG).toArray (n * 66) 77
      rw [← HmkL.out] at h0
      exact (h0.allocK _).setCells _ _ _
    · rw [size_setCells]; simp
    · exact below_setCells (((Below.refl _ _).alloc (Nat.le_refl _) _).alloc (by simp) _) (Nat.le_succ _) _ _
  case rest =>
    obtain ⟨rfl, hH, hLs, hRL, hsz, hBx⟩ := hcut
    clear hmL hAl hBu hSt
    have c32 := (HouseAt.lods (b := w2.heap.size + 1) hH.out rfl).1
    have hx : w2.heap.size < wc.heap.size := by omega
    have hS2 : Hid (Sheets wc (w.heap.size + 1) ms) := by
      have := S2.below hBx.out l2
      rwa [World.size_alloc] at this
    have hl2 : w.heap.size + 1 < w2.heap.size := by simpa using l2
    clear S2 R2
    go_wp2_with (fail)
    go_loopw [8, 36] (fun _ i wr => ∃ k : Nat, k ≤ n ∧ i = .int .i64 k ∧ Hid (∀ i, i < n → wr.rangeAt w2.heap.size (i * 66) (lodC (if i < k then ldG ms i else zeroG))) ∧ Hid (Room wr w2.heap.size (n * 66)) ∧ wr.heap.size = wc.heap.size ∧ Hid (∀ j, j ≠ w2.heap.size → wr.heap[j]? = wc.heap[j]?) ∧ Hid (Below w2.heap.size w2 wr)) (fun _ i _ => n - (intOf i).toNat)
    case atStart => exact ⟨0, Nat.zero_le _, rfl, fun i hi => by simpa using hLs.out i hi, hRL.out, rfl, fun _ _ => rfl, hBx.out⟩
    case round =>
      obtain ⟨k, hk, rfl, hA, hR, hws, hsame, hBr⟩ := hrel
      by_cases hkl : k < n
      · have hki : (k : Int) < (n : Int) := by omega
        have cr := (World.cell?_of_block (a := ⟨w2.heap.size + 1, 32, none⟩) (hsame.out (w2.heap.size + 1) (by omega))).trans c32
        go_wp2_with (fail)
        have hk0 : (0 : Int) ≤ (k : Int) := Int.natCast_nonneg _
        have hk6 : (0 : Int) ≤ (k : Int) * 6 := by omega
        have hk6n : (k : Int) * 6 ≤ ((n * 6 : Nat) : Int) := by omega
        have hkw : IntKind.i64.wrap ((k : Int) * 6) = (k : Int) * 6 := wrap_small _ (by omega) (by omega)
        have htn : ((k : Int) * 6).toNat = k * 6 := by omega
        have hlm := h.1
        have hsrc : Hid (wr.rangeAt (w.heap.size + 1) (k * 6 * 4) (sheetsC ((ms.drop (k * 6)).take 6))) := by
          have hall := sheets_range hS2.out
          have e : sheetsC ms = sheetsC (ms.take (k * 6)) ++ (sheetsC ((ms.drop (k * 6)).take 6) ++ sheetsC ((ms.drop (k * 6)).drop 6)) := by
            simp only [sheetsC, ← List.flatMap_append, List.take_append_drop]
          rw [e] at hall
          have h1 := range_left (range_right hall (n := k * 6 * 4) (by rw [sheetsC_len, List.length_take]; omega))
          rw [Nat.zero_add] at h1
          intro j v hj
          exact (World.cell?_of_block (a := ⟨w.heap.size + 1, k * 6 * 4 + j, none⟩) (hsame.out (w.heap.size + 1) (by omega))).trans (h1 j v hj)
        have hdl : ((ms.drop (k * 6)).take 6).length = 6 := by rw [List.length_take, List.length_drop]; omega
        have hcp : (Builtin.copy_ #[59, 59] 3 #[.slice (some ⟨w2.heap.size, k * 66 + 18, none⟩) 6 6, .slice (some ⟨w.heap.size + 1, ((k : Int) * 6).toNat * 4, none⟩) (n * 6 - ((k : Int) * 6).toNat) (n * 6 - ((k : Int) * 6).toNat)]).run Tryd.prog wr.drew = .ok (goInt 6) (wr.drew.setCells w2.heap.size (k * 66 + 18) (sheetsC ((ms.drop (k * 6)).take 6))) := by
          rw [htn]
          refine run_copy_wide wr.drew 59 59 3 64 w2.heap.size (k * 66 + 18) 6 6 ⟨w.heap.size + 1, k * 6 * 4, none⟩ (n * 6 - k * 6) (n * 6 - k * 6) 6 4 _ Tryd.underlying59 (by kernel_rfl) (Nat.min_eq_right (by omega)) (by rw [sheetsC_len, hdl]) ?_ (fun j hj => ?_) (fun j hj => ?_) (sheetsC_one _)
          · intro j v hj
            rw [adk]
            exact hsrc.out j v hj
          · rw [sheetsC_len, hdl] at hj
            obtain ⟨⟨v, hv⟩, _⟩ := hR.out (k * 66 + 18 + j) (by omega)
            simp [hv]
          · rw [sheetsC_len, hdl] at hj
            have := (hR.out (k * 66 + 18 + j) (by omega)).2
            simpa using this
        clear htn
        go_region_held3 (fun w' => w'.cell? ⟨w2.heap.size + 1, 32, none⟩ = some (.slice (some ⟨w2.heap.size, 0, none⟩) n n)) (first | go_keep | exact range_cell (w := wr.drew) cr (Nat.succ_ne_self _)) (fail)
        go_wp2
        go_roundw
        case rel =>
          go_light
          refine ⟨k + 1, by omega, by go_num, ?_, Room.setCells (w := wr.drew) hR.out _ _ _, by rw [size_setCells]; exact hws, ?_, below_setCells hBr.out.drew (Nat.le_refl _) _ _⟩
          · intro i hi
            have ho := hA.out i hi
            by_cases hik : i = k
            · subst hik
              rw [if_neg (by omega)] at ho
              rw [if_pos (by omega)]
              have p1 := range_left ho
              have p3 := range_right (range_right ho (n := 18) rfl) (n := 24) rfl
              have q1 := World.rangeAt_setCells_apart (w := wr.drew) p1 w2.heap.size (i * 66 + 18) (sheetsC ((ms.drop (i * 6)).take 6)) (Or.inr (Or.inl (by rw [flat_len]; simp [zeroG])))
              have q2 := World.rangeAt_setCells_same wr.drew w2.heap.size (i * 66 + 18) (sheetsC ((ms.drop (i * 6)).take 6)) (fun j hj => by
                rw [sheetsC_len, hdl] at hj
                obtain ⟨⟨v, hv⟩, hf⟩ := hR.out (i * 66 + 18 + j) (by omega)
                exact ⟨by simp [hv], by simpa using hf⟩)
              have q3 := World.rangeAt_setCells_apart (w := wr.drew) p3 w2.heap.size (i * 66 + 18) (sheetsC ((ms.drop (i * 6)).take 6)) (Or.inr (Or.inr (by rw [sheetsC_len, hdl]; omega)))
              exact range_join (n := 18) rfl q1 (range_join (n := 24) (by show (sheetsC ((ms.drop (i * 6)).take 6)).length = 24; rw [sheetsC_len, hdl]) q2 q3)
            · have e1 : (if i < k + 1 then ldG ms i else zeroG) = (if i < k then ldG ms i else zeroG) := by
                by_cases h1 : i < k
                · rw [if_pos h1, if_pos (by omega)]
                · rw [if_neg h1, if_neg (by omega)]
              rw [e1]
              have hsz6 : (lodC (if i < k then ldG ms i else zeroG)).length = 66 := by
                by_cases h1 : i < k
                · rw [if_pos h1]
                  have : ((ms.drop (i * 6)).take 6).length = 6 := by rw [List.length_take, List.length_drop]; omega
                  simp [lodC, flat_len, sheetsC_len, quadsC_len, ldG, this]
                · rw [if_neg h1]; exact lodC_len zeroG_sized
              refine World.rangeAt_setCells_apart (w := wr.drew) ho _ _ _ (Or.inr ?_)
              rw [hsz6, sheetsC_len, hdl]
              rcases Nat.lt_or_ge i k with h1 | h1
              · left
                have := Nat.mul_le_mul_right 66 (show i + 1 ≤ k by omega)
                omega
              · right
                have := Nat.mul_le_mul_right 66 (show k + 1 ≤ i by omega)
                omega
          · intro j hj
            rw [heap_setCells _ _ _ _ _ hj]
            exact hsame.out j hj
        case measure => simp [intOf]; omega
      · have hkk : k = n := by omega
        subst hkk
        have hHr : HouseAt wr (w2.heap.size + 1) (zeroM 8) (.slice (some ⟨w2.heap.size, 0, none⟩) k k) 0 := fun j v hj => (World.cell?_of_block (a := ⟨w2.heap.size + 1, 0 + j, none⟩) (hsame.out (w2.heap.size + 1) (by omega))).trans (hH.out j v hj)
        have hld : bigRun Tryd.prog 67 (.pointer (some ⟨w2.heap.size + 1, 0, none⟩)) wr = .ok (.agg (houseC (zeroM 8) (.slice (some ⟨w2.heap.size, 0, none⟩) k k) 0).toArray) wr := big_load Tryd.underlying67 rfl (by rw [houseC_len rfl]; kernel_rfl) _ _ wr hHr
        have hgl : ((List.range k).map (ldG ms)).length = k := by simp
        have hgd : ∀ i, i < k → ((List.range k).map (ldG ms)).getD i noG = ldG ms i := fun i hi => by simp [List.getD_eq_getElem?_getD, hi]
        have hlm := h.1
        have h4 : ∀ i, i < ms.length → (ms.getD i []).length = 4 := fun i hi => (okM_get ho hi).1
        have hsd : ∀ i, i < k → Sized (ldG ms i) := fun i hi => by
          have hl6 : ((ms.drop (i * 6)).take 6).length = 6 := by rw [List.length_take, List.length_drop]; omega
          refine ⟨by simp [ldG], hl6, fun j hj => ?_, by simp [ldG]⟩
          have e : ((ms.drop (i * 6)).take 6).getD j [] = ms.getD (i * 6 + j) [] := by
            simp only [List.getD_eq_getElem?_getD]
            rw [List.getElem?_take_of_lt (by omega), List.getElem?_drop]
          show (((ms.drop (i * 6)).take 6).getD j []).length = 4
          rw [e]
          exact h4 _ (by omega)
        have hHH := houseHost w2.heap.size k (zeroM 8) 0 ((List.range k).map (ldG ms)) rfl (fun i hi => by rw [zeroM_get hi]; rfl) hgl (by omega) (fun i hi => by rw [hgd i hi]; exact hsd i hi) wr (by omega) (fun i hi => by
          rw [hgd i hi]
          have := hA.out i hi
          rwa [if_pos hi] at this)
        go_wp2_with (fail)
        refine hHH.mono ?_
        rintro e w5 ⟨vf, vg, rfl, hO, B5⟩
        have hO' := hO
        obtain ⟨af, cf, m0, m1, rfl, _, _, _, ag, cg, rfl, _⟩ := hO'
        have sr := hBr.out.size
        have B25 : Below w2.heap.size w2 w5 := hBr.out.trans (B5.mono sr)
        have B05 := B2.trans (B25.mono B2.size)
        rw [World.size_alloc] at B05
        have N0 := newT_of B05
        obtain ⟨y0, y1, y2, y3, y4, y5, y6⟩ := N0
        have HO : Hid (OwnHost w5 wr.heap.size w5.heap.size (.slice af (zeroM 8).length cf) (.slice ag k cg) ⟨zeroM 8, (List.range k).map (ldG ms), 0⟩) := by
          have h' := hO
          rw [hgl] at h'
          exact h'
        have HB : Hid (Below w.heap.size w w5) := B0.trans (B05.mono (Nat.le_succ _))
        clear hO B5 B25 B05 B0 B2 hHH hld hHr
        go_wp2
        refine bodyPost_ret (v := .tuple #[.agg #[.slice af (zeroM 8).length cf, .slice ag k cg, .int .i64 0], .bool true]) (by simp [results, Tryd.results10, go_sem, *]) rfl ?_
        have s5 : SameIn (w.heap.size + 1) w5.heap.size w5 (((w5.setCell ⟨w.heap.size, 0, none⟩ (.slice af (zeroM 8).length cf)).setCell ⟨w.heap.size, 1, none⟩ (.slice ag k cg)).setCell ⟨w.heap.size, 2, none⟩ (.int .i64 0)) := fun j k1 k2 => by
          rw [Below.heap_setCell _ _ _ _ (by simp; omega), Below.heap_setCell _ _ _ _ (by simp; omega), Below.heap_setCell _ _ _ _ (by simp; omega)]
        refine ⟨_, _, rfl, ?_, ?_⟩
        · exact OwnHost.wide (lo := w.heap.size + 1) (hi := w5.heap.size) (OwnHost.same s5 (HO.out.wide (by omega) (Nat.le_refl _))) (by omega) (by simp)
        · exact ((HB.out.setCell (p := ⟨w.heap.size, 0, none⟩) (Nat.le_refl _) _).setCell (p := ⟨w.heap.size, 1, none⟩) (Nat.le_refl _) _).setCell (p := ⟨w.heap.size, 2, none⟩) (Nat.le_refl _) _
end Go.Proofs.YteelpikhijkmdaaDoor
