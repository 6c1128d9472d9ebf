/-
  What cutting a text at the first blank gives, and reading one piece.
-/
import Derived.Test.YtfiailnlkhonnaaDoorPieces0
import Derived.Test.YtfiailnlkhonnaaDoorLinks0
import Derived.Test.YtfiailnlkhonnaaDoorShelf
import Derived.Shelf.RegionOpen
namespace Go.Proofs.YtfiailnlkhonnaaDoor
open Go.RowKit

set_option maxHeartbeats 1000000 in
theorem cutLite (s : ByteArray) (w : World) (hs : s.size ≤ 1048576) :
    Calls Tryd.prog 40 #[.string s, .string ⟨#[32]⟩] w fun e w' => ∃ (p r : ByteArray) (m : Bool), e = .returned (.tuple #[.string p, .string r, .bool m]) ∧
      (split32 s.data.toList = p.data.toList :: bif m then split32 r.data.toList else []) ∧ p.size ≤ s.size ∧ r.size ≤ s.size ∧ (m = true → r.size < s.size) ∧ ∃ n, w' = w.drewN n := by
  by_cases hix : Lib.indexByte s.data.toList 32 = -1
  · go_enter Tryd.func40, Tryd.ntmps40
    go_wp2_with (fail)
    refine (Tryd.stringslite_Index_one s 32 _).mono ?_
    rintro e w' ⟨rfl, rfl⟩
    rw [hix]
    go_wp2
    go_ret3
    exact ⟨s, ⟨#[]⟩, false, rfl, split32_none (indexByte_none hix), Nat.le_refl _, Nat.zero_le _, by simp, 0, rfl⟩
  · obtain ⟨i, hi, hlt, he, hn⟩ := indexByte_some hix
    have hsz : i < s.size := by rw [Array.length_toList] at hlt; exact hlt
    have c1 : (0 : Int) ≤ ↑i := by omega
    have c2 : (↑i : Int) ≤ ↑s.size := by omega
    have c3 : (0 : Int) ≤ ↑i + 1 := by omega
    have c4 : (↑i + 1 : Int) ≤ ↑s.size := by omega
    go_enter Tryd.func40, Tryd.ntmps40
    go_wp2_with (fail)
    refine (Tryd.stringslite_Index_one s 32 _).mono ?_
    rintro e w' ⟨rfl, rfl⟩
    rw [hi]
    go_wp2_with (fail)
    go_quiet (fail)
    go_wp2
    go_ret3
    have d1 : (s.extract 0 i).data.toList = s.data.toList.take i := by rw [Lib.extract_data]; simp
    have d2 : (s.extract (i + 1) s.size).data.toList = s.data.toList.drop (i + 1) := by
      rw [Lib.extract_data]
      have hsd : s.size = s.data.toList.length := by rw [Array.length_toList]; rfl
      rw [hsd, ← List.length_drop, List.take_length]
    refine ⟨s.extract 0 i, s.extract (i + 1) s.size, true, rfl, ?_, ?_, ?_, fun _ => ?_, nq, rfl⟩
    · rw [d1, d2, cond_true]
      exact (congrArg split32 he).trans (split32_at hn)
    · rw [ByteArray.size_extract]; omega
    · rw [ByteArray.size_extract]; omega
    · rw [ByteArray.size_extract]; omega

set_option maxHeartbeats 1000000 in
theorem cutAny (s : ByteArray) (w : World) (hs : s.size ≤ 1048576) :
    Calls Tryd.prog 33 #[.string s, .string ⟨#[32]⟩] w fun e w' => ∃ (p r : ByteArray) (m : Bool), e = .returned (.tuple #[.string p, .string r, .bool m]) ∧
      (split32 s.data.toList = p.data.toList :: bif m then split32 r.data.toList else []) ∧ p.size ≤ s.size ∧ r.size ≤ s.size ∧ (m = true → r.size < s.size) ∧ ∃ n, w' = w.drewN n := by
  go_enter Tryd.func33, Tryd.ntmps33
  go_wp2_with (fail)
  refine (cutLite s _ hs).mono ?_
  rintro e w' ⟨p, r, m, rfl, h1, h2, h3, h4, n, rfl⟩
  go_wp2
  go_ret3
  exact ⟨p, r, m, rfl, h1, h2, h3, h4, n, rfl⟩

theorem decDigits_of (k : Nat) (h : k < 6) : Lib.decDigits k = [UInt8.ofNat (48 + k)] := by
  unfold Lib.decDigits
  rw [dif_pos (by omega)]
theorem txtL_ro (p : Nat) : txtL (true, (p : Int), false) = [UInt8.ofNat (48 + p)] := by simp [txtL, txt]
theorem txtL_rw (p : Nat) : txtL (true, (p : Int), true) = [UInt8.ofNat (48 + p)] ++ [119] := by simp [txtL, txt]

set_option maxHeartbeats 2000000 in
theorem readLink_any (s : ByteArray) (w : World) (hs : s.size ≤ 1048576) :
    Calls Tryd.prog 21 #[.string s] w fun e w' => ∃ (x : E3) (k : Bool), e = .returned (.tuple #[linkV x, .bool k]) ∧
      ((k = true ∧ okE x = true ∧ txtL x = s.data.toList) ∨ (k = false ∧ ∀ x, okE x = true → txtL x ≠ s.data.toList)) ∧ Below w.heap.size w w' := by
  by_cases hg : s = ⟨#[45]⟩
  · subst hg
    go_enter Tryd.func21, Tryd.ntmps21
    go_wp2
    go_ret2
    refine ⟨(false, 0, false), true, rfl, Or.inl ⟨rfl, rfl, rfl⟩, ?_⟩
    (repeat' (with_reducible (first | exact Below.refl _ _ | apply Below.setCell | apply Below.alloc | apply below_drewN | apply Below.drew))) <;> (first | exact Nat.le_refl _ | (simp; done) | (simp; omega))
  · have hne : (s.toList == [45]) = false := by
      rw [ByteArray.toList_eq, beq_eq_false_iff_ne]
      intro e
      exact hg (ByteArray.ext (Array.toList_inj.mp e))
    obtain ⟨F, hF⟩ : ∃ F : ByteArray, F = ⟨(Lib.trimSuffix s.data.toList [119]).toArray⟩ := ⟨_, rfl⟩
    obtain ⟨B, hB⟩ : ∃ B : Bool, B = Lib.hasSuffix s.data.toList [119] := ⟨_, rfl⟩
    have hC := Tryd.strings_CutSuffix s ⟨#[119]⟩ w (by omega)
    rw [← hF, ← hB] at hC
    have hSuf : Hid ((B = true ∧ s.data.toList = F.data.toList ++ [119]) ∨ (B = false ∧ F.data.toList = s.data.toList ∧ ∀ m, s.data.toList ≠ m ++ [119])) := by
      have := suffix_one s.data.toList 119
      rw [hF, hB]
      exact this
    have hS45 : Hid (s.data.toList ≠ [45]) := fun e => hg (ByteArray.ext (Array.toList_inj.mp e))
    clear hF hB hg
    go_enter Tryd.func21, Tryd.ntmps21
    go_wp2_with (fail)
    refine hC.mono ?_
    rintro e w1 ⟨rfl, rfl⟩
    clear hC
    go_wp2
    go_loopw [6, 16] (fun _ i wr => ∃ k : Nat, k ≤ 6 ∧ i = .int .i64 k ∧ Hid (∀ j, j < k → F.data.toList ≠ [UInt8.ofNat (48 + j)]) ∧ Below w1.heap.size w1 wr) (fun _ i _ => 6 - (intOf i).toNat)
    case atStart => exact ⟨0, Nat.zero_le _, rfl, fun j hj => absurd hj (Nat.not_lt_zero _), Below.refl _ _⟩
    case round =>
      obtain ⟨k, hk, rfl, hmiss, hW⟩ := hrel
      by_cases hlt : k < 6
      · have hki : (k : Int) < 6 := by omega
        have hD := Tryd.strconv_Itoa_small k (by omega)
        obtain ⟨D, hDd⟩ : ∃ D : ByteArray, D = ⟨(Lib.decDigits k).toArray⟩ := ⟨_, rfl⟩
        rw [← hDd] at hD
        have HD : Hid (D.data.toList = [UInt8.ofNat (48 + k)]) := by
          have := decDigits_of k hlt
          rw [hDd, this]; rfl
        clear hDd
        cases hFD : (F.toList == D.toList)
        · have hm' : Hid (∀ j, j < k + 1 → F.data.toList ≠ [UInt8.ofNat (48 + j)]) := by
            intro j hj
            by_cases hjk : j = k
            · subst hjk
              rw [← HD.out]
              rw [ByteArray.toList_eq, ByteArray.toList_eq, beq_eq_false_iff_ne] at hFD
              exact hFD
            · exact hmiss.out j (by omega)
          go_wp2_with (fail)
          refine (hD _).mono ?_
          rintro e w2 ⟨rfl, rfl⟩
          go_wp2
          go_roundw
          case rel => exact ⟨k + 1, by omega, by go_num, hm', hW⟩
          case measure => simp [intOf]; omega
        · have hFk : Hid (F.data.toList = [UInt8.ofNat (48 + k)]) := by
            rw [← HD.out]
            rw [ByteArray.toList_eq, ByteArray.toList_eq, beq_iff_eq] at hFD
            exact hFD
          go_wp2_with (fail)
          refine (hD _).mono ?_
          rintro e w2 ⟨rfl, rfl⟩
          go_wp2
          go_ret2
          refine ⟨(true, (k : Int), B), true, rfl, Or.inl ⟨rfl, ?_, ?_⟩, ?_⟩
          · have : (k : Int) ≤ 5 := by omega
            simp [okE, this]
          · rcases hSuf.out with ⟨rfl, h⟩ | ⟨rfl, h, _⟩
            · rw [h, hFk.out, txtL_rw]
            · rw [← h, hFk.out, txtL_ro]
          · (repeat' (with_reducible (first | exact Below.refl _ _ | apply Below.setCell | apply Below.alloc | apply below_drewN | apply Below.drew | refine Below.trans ?_ (Below.mono (by assumption) ?_)))) <;> (first | exact Nat.le_refl _ | (simp; done) | (simp; omega) | (simp at *; omega))
      · obtain rfl : k = 6 := by omega
        go_wp2
        go_ret2
        refine ⟨(false, 0, false), false, rfl, Or.inr ⟨rfl, ?_⟩, ?_⟩
        · intro x hx e
          rcases okE_cases hx with rfl | ⟨p, b, rfl⟩
          · exact hS45.out (e.symm.trans txtL_gap)
          · have hp := hmiss.out p.1 p.2
            cases b
            · rw [txtL_ro] at e
              rcases hSuf.out with ⟨_, h⟩ | ⟨_, h, _⟩
              · rw [← e] at h
                have h' := congrArg List.length h
                simp at h'
                rw [h'] at h
                simp at h
                have : ∀ q : Fin 6, (48 + UInt8.ofNat q.1 : UInt8) ≠ 119 := by decide
                exact this p h
              · exact hp (h.trans e.symm)
            · rw [txtL_rw] at e
              rcases hSuf.out with ⟨_, h⟩ | ⟨_, _, h⟩
              · rw [← e] at h
                exact hp ((List.append_left_inj [119]).mp h).symm
              · exact h _ e.symm
        · (repeat' (with_reducible (first | exact Below.refl _ _ | apply Below.setCell | apply Below.alloc | apply below_drewN | apply Below.drew | refine Below.trans ?_ (Below.mono (by assumption) ?_)))) <;> (first | exact Nat.le_refl _ | (simp; done) | (simp; omega) | (simp at *; omega))
end Go.Proofs.YtfiailnlkhonnaaDoor
