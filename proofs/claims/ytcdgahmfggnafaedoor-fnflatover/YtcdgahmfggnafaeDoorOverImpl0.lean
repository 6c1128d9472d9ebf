/-
  What the program's own TabOver does.
-/
import Derived.Test.YtcdgahmfggnafaeDoorOver0
namespace Go.Proofs.YtcdgahmfggnafaeDoor
open Go.RowKit

/-- A table behind another one. -/
def overT (ea eb : List E3) : List E3 := ea.map fun x => overE x eb

theorem overT_get (ea eb : List E3) (k : Nat) (hk : k < ea.length) : (overT ea eb).getD k (false, 0, false) = overE (ea.getD k (false, 0, false)) eb := by
  simp [overT, List.getD_eq_getElem?_getD, hk]

theorem ok_page {es : List E3} (h : es.all okE = true) {k : Nat} (hk : k < es.length) {p : Int} {b : Bool} (he : es.getD k (false, 0, false) = (true, p, b)) : 0 ≤ p ∧ p ≤ 5 := by
  rw [List.all_eq_true] at h
  have hm : es.getD k (false, 0, false) ∈ es := by rw [List.getD_eq_getElem?_getD, List.getElem?_eq_getElem hk]; exact List.getElem_mem hk
  have := h _ hm
  rw [he] at this
  simpa [okE] using this

theorem overE_canon (x : E3) (eb : List E3) : (overE x eb).1 = false → (overE x eb).2.1 = 0 ∧ (overE x eb).2.2 = false := by
  unfold overE
  cases x.1
  · simp
  · cases (eb.getD x.2.1.toNat (false, 0, false)).1 <;> simp

/-- Where no table is laid behind another. -/
theorem implTabOver_not (ba oa la ca : Nat) (ea : List E3) (bb ob lb cb : Nat) (eb : List E3) (w : World) (hla : ea.length = la) (hlb : eb.length = lb) (ha : ba < w.heap.size) (hb : bb < w.heap.size) (hca : Ents w ba oa ea) (hcb : Ents w bb ob eb)
    (hT : ((ea.all okE && ((la : Int) == 6)) && (eb.all okE && ((lb : Int) == 6))) = false) :
    Calls Tryd.prog 23 #[.slice (some ⟨ba, oa, none⟩) la ca, .slice (some ⟨bb, ob, none⟩) lb cb] w fun e w' => e = .returned (.slice none 0 0) ∧ Below w.heap.size w w' := by
  go_enter Tryd.func23, Tryd.ntmps23
  go_wp2_with (fail)
  refine (implTabOk ba oa la ca ea _ hla ha hca).mono ?_
  rintro e w1 ⟨rfl, B1⟩
  cases h1 : (ea.all okE && ((la : Int) == 6))
  · go_wp2
    go_ret
    exact ⟨rfl, B1⟩
  · have h2 : (eb.all okE && ((lb : Int) == 6)) = false := by rw [h1] at hT; simpa using hT
    clear hT
    go_wp2_with (fail)
    refine (implTabOk bb ob lb cb eb _ hlb (Nat.lt_of_lt_of_le hb B1.size) (hcb.below B1 hb)).mono ?_
    rintro e w2 ⟨rfl, B2⟩
    rw [h2]
    go_wp2
    go_ret
    exact ⟨rfl, B1.trans (B2.mono B1.size)⟩

/-- One entry, as the program works it out. -/
theorem step_entry (k : Nat) (x : E3) (ea : List E3) (bb ob cb : Nat) (eb : List E3) (w : World) (hb : bb < w.heap.size) (hcb : Ents w bb ob eb) (hl : eb.length = 6) (hg : ea.getD k (false, 0, false) = x) (hk : k < ea.length) (hok : ea.all okE = true) :
    Calls Tryd.prog 46 #[linkV x, .slice (some ⟨bb, ob, none⟩) 6 cb] w fun e w' => e = .returned (linkV (overE x eb)) ∧ Below w.heap.size w w' := by
  obtain ⟨xh, xp, xb⟩ := x
  cases xh
  · exact follow_gap _ w
  · obtain ⟨p0, p5⟩ := ok_page hok hk hg
    obtain ⟨j, rfl⟩ := Int.eq_ofNat_of_zero_le p0
    obtain ⟨q0, q1, q2⟩ := hcb j (by omega)
    exact follow_lead j xb bb ob cb (eb.getD j (false, 0, false)) w (by omega) hb q0 q1 q2

theorem make6 (w : World) : (Instr.makeSlice 32 (.int .i64 6) (.int .i64 6)).run Tryd.prog w = .ok (.slice (some ⟨w.heap.size, 0, none⟩) 6 6) (w.alloc (.cells (madeCells #[.bool false, .int .i64 0, .bool false] 18) 30)) := make_ents 6 (by omega) w

set_option maxHeartbeats 2000000 in
theorem implTabOver_ok (ba oa ca : Nat) (ea : List E3) (bb ob cb : Nat) (eb : List E3) (w : World) (hla : ea.length = 6) (hlb : eb.length = 6) (ha : ba < w.heap.size) (hb : bb < w.heap.size) (hca : Ents w ba oa ea) (hcb : Ents w bb ob eb)
    (hA : ea.all okE = true) (hB : eb.all okE = true) :
    Calls Tryd.prog 23 #[.slice (some ⟨ba, oa, none⟩) 6 ca, .slice (some ⟨bb, ob, none⟩) 6 cb] w fun e w' =>
      ∃ T, e = .returned (.slice (some ⟨T, 0, none⟩) 6 6) ∧ w.heap.size ≤ T ∧ T < w'.heap.size ∧ Ents w' T 0 (overT ea eb) ∧ Room w' T 18 ∧ Below w.heap.size w w' := by
  have hmk := make6
  have m1 := method_gapEntry
  have m2 := method_leadEntry
  go_enter Tryd.func23, Tryd.ntmps23
  go_wp2_with (fail)
  refine (implTabOk ba oa 6 ca ea _ hla ha hca).mono ?_
  rintro e w1 ⟨rfl, B1⟩
  rw [show (ea.all okE && (((6 : Nat) : Int) == 6)) = true by rw [hA]; rfl]
  go_wp2_with (fail)
  refine (implTabOk bb ob 6 cb eb _ hlb (Nat.lt_of_lt_of_le hb B1.size) (hcb.below B1 hb)).mono ?_
  rintro e w2 ⟨rfl, B2⟩
  rw [show (eb.all okE && (((6 : Nat) : Int) == 6)) = true by rw [hB]; rfl]
  have B2' := B1.trans (B2.mono B1.size)
  have s2 := B2'.size
  clear B1 B2
  go_wp2_with (fail)
  clear hmk
  go_loopw [6, 7, 19] (fun _ _ i wr => ∃ k : Nat, k ≤ 6 ∧ i = .int .i64 k ∧ Hid (Ents wr w2.heap.size 0 ((overT ea eb).take k)) ∧ Hid (Room wr w2.heap.size 18) ∧ w2.heap.size < wr.heap.size ∧ Below w.heap.size w wr) (fun _ _ i _ => 6 - (intOf i).toNat)
  case atStart => exact ⟨0, Nat.zero_le _, rfl, fun i hi => by simp at hi, room_made _ _ _ _, by simp, B2'.alloc s2 _⟩
  case round =>
    obtain ⟨k, hk, rfl, hE, hR, hlt, hW⟩ := hrel
    have sW := hW.size
    by_cases hkl : k < 6
    · obtain ⟨q0, q1, q2⟩ := hca k (by omega)
      have HO := overT_get ea eb k (by omega)
      generalize hG : ea.getD k (false, 0, false) = ek at q0 q1 q2 HO
      have hF := fun w' hb' hc' => step_entry k ek ea bb ob cb eb w' hb' hc' hlb hG (by omega) hA
      obtain ⟨eh, ep, eb'⟩ := ek
      have c0 := (hW.cell (p := ⟨ba, oa + k * 3, none⟩) ha).trans q0
      have c1 := (hW.cell (p := ⟨ba, oa + k * 3 + 1, none⟩) ha).trans q1
      have c2 := (hW.cell (p := ⟨ba, oa + k * 3 + 2, none⟩) ha).trans q2
      have hL := linkOf_any eh ep eb'
      generalize hO : overE (eh, ep, eb') eb = oe at HO hF
      have HO' : Hid ((overT ea eb).getD k (false, 0, false) = oe) := HO
      clear HO hG q0 q1 q2
      have hki : (k : Int) < 6 := by omega
      go_wp2_with (fail)
      refine (hL _).mono ?_
      rintro e w3 ⟨rfl, o3, rfl⟩
      go_wp2_with (fail)
      have A3 : Below w.heap.size w ((wr.alloc (.cells #[.bool eh, .int .i64 ep, .bool eb'] 30)).alloc o3) := by
        (repeat' (with_reducible (first | exact Below.refl _ _ | apply Below.setCell | apply Below.alloc | apply below_drewN | apply Below.drew | refine Below.trans ?_ (Below.mono (by assumption) ?_)))) <;> (first | exact Nat.le_refl _ | (simp; done) | (simp; omega) | (simp at *; omega))
      have C3 : Below wr.heap.size wr ((wr.alloc (.cells #[.bool eh, .int .i64 ep, .bool eb'] 30)).alloc o3) := by
        (repeat' (with_reducible (first | exact Below.refl _ _ | apply Below.setCell | apply Below.alloc | apply below_drewN | apply Below.drew))) <;> (first | exact Nat.le_refl _ | (simp; done) | (simp; omega))
      refine (hF _ (Nat.lt_of_lt_of_le hb A3.size) (hcb.below A3 hb)).mono ?_
      rintro e w4 ⟨rfl, B4⟩
      have B4' := A3.trans (B4.mono A3.size)
      have C4 := C3.trans (B4.mono C3.size)
      have hcan := overE_canon (eh, ep, eb') eb
      rw [hO] at hcan
      obtain ⟨oh, op, ow⟩ := oe
      cases oh
      · obtain ⟨rfl, rfl⟩ : op = 0 ∧ ow = false := by simpa using hcan
        rw [show linkV (false, 0, false) = .iface 95 (.agg #[]) from rfl]
        clear hcan hO hF hL C3
        go_wp2_with (fail)
        refine (gapEntry_any _).mono ?_
        rintro e w5 ⟨rfl, B5⟩
        have C5 := C4.trans (B5.mono C4.size)
        have B5' := B4'.trans (B5.mono B4'.size)
        have HR5 : Hid (Room w5 w2.heap.size 18) := hR.out.below C5 hlt
        have HE5 : Hid (Ents w5 w2.heap.size 0 ((overT ea eb).take k)) := hE.out.below C5 hlt
        have hlt5 : w2.heap.size < w5.heap.size := Nat.lt_of_lt_of_le hlt C5.size
        obtain ⟨⟨u0, d0⟩, f0⟩ := HR5.out (k * 3) (by omega)
        obtain ⟨⟨u1, d1⟩, f1⟩ := HR5.out (k * 3 + 1) (by omega)
        obtain ⟨⟨u2, d2⟩, f2⟩ := HR5.out (k * 3 + 2) (by omega)
        clear hE hR C4 C5 B4 B4' A3 B5 c0 c1 c2
        go_wp2
        go_roundw
        case rel =>
          refine ⟨k + 1, by omega, by go_num, ents_put HR5.out HE5.out (by simp [overT]; omega) (by omega) HO'.out, ((HR5.out.put _).put _).put _, by simpa using hlt5, ?_⟩
          exact ((B5'.setCell (p := ⟨w2.heap.size, k * 3, none⟩) s2 _).setCell (p := ⟨w2.heap.size, k * 3 + 1, none⟩) s2 _).setCell (p := ⟨w2.heap.size, k * 3 + 2, none⟩) s2 _
        case measure => simp [intOf]; omega
      · rw [show linkV (true, op, ow) = .iface 91 (.agg #[.int .i64 op, .bool ow]) from rfl]
        clear hcan hO hF hL C3
        go_wp2_with (fail)
        refine (leadEntry_any op ow _).mono ?_
        rintro e w5 ⟨rfl, B5⟩
        have C5 := C4.trans (B5.mono C4.size)
        have B5' := B4'.trans (B5.mono B4'.size)
        have HR5 : Hid (Room w5 w2.heap.size 18) := hR.out.below C5 hlt
        have HE5 : Hid (Ents w5 w2.heap.size 0 ((overT ea eb).take k)) := hE.out.below C5 hlt
        have hlt5 : w2.heap.size < w5.heap.size := Nat.lt_of_lt_of_le hlt C5.size
        obtain ⟨⟨u0, d0⟩, f0⟩ := HR5.out (k * 3) (by omega)
        obtain ⟨⟨u1, d1⟩, f1⟩ := HR5.out (k * 3 + 1) (by omega)
        obtain ⟨⟨u2, d2⟩, f2⟩ := HR5.out (k * 3 + 2) (by omega)
        clear hE hR C4 C5 B4 B4' A3 B5 c0 c1 c2
        go_wp2
        go_roundw
        case rel =>
          refine ⟨k + 1, by omega, by go_num, ents_put HR5.out HE5.out (by simp [overT]; omega) (by omega) HO'.out, ((HR5.out.put _).put _).put _, by simpa using hlt5, ?_⟩
          exact ((B5'.setCell (p := ⟨w2.heap.size, k * 3, none⟩) s2 _).setCell (p := ⟨w2.heap.size, k * 3 + 1, none⟩) s2 _).setCell (p := ⟨w2.heap.size, k * 3 + 2, none⟩) s2 _
        case measure => simp [intOf]; omega
    · have hkk : k = 6 := by omega
      have HE : Hid (Ents wr w2.heap.size 0 (overT ea eb)) := by
        have := hE.out
        rwa [List.take_of_length_le (by simp [overT]; omega)] at this
      clear hE
      go_wp2
      go_ret
      exact ⟨w2.heap.size, rfl, s2, hlt, HE.out, hR.out, hW⟩
end Go.Proofs.YtcdgahmfggnafaeDoor
