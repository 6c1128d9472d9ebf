/-
  The walk of the law FnExactMemNew: whatever the number, both functions give the same, and the answer lies in memory of its own.
-/
import Derived.Test.YtjegndgdpmlbaaaKOHB
import Derived.Test.YtjegndgdpmlbaaaKOW
import Derived.Test.YtjegndgdpmlbaaaKOH
namespace Go.Proofs.Ytjegndgdpmlbaaa
open Go.RowKit

end Go.Proofs.Ytjegndgdpmlbaaa

/-
  Hosts of the shape that the functions hand out are small; answers written out.
-/
namespace Go.Proofs.Ytjegndgdpmlbaaa
open Go.RowKit

theorem HostIn.belowK {w w' : World} {lo hi : Nat} {vf vg : Value} {h : Hst} (k : HostIn w lo hi vf vg h) (hB : Below w.heap.size w w') (hh : hi ≤ w.heap.size) : HostIn w' lo hi vf vg h := k.same (below_sameIn hB hh)
theorem OwnHost.belowK {w w' : World} {lo hi : Nat} {vf vg : Value} {h : Hst} (k : OwnHost w lo hi vf vg h) (hB : Below w.heap.size w w') (hh : hi ≤ w.heap.size) : OwnHost w' lo hi vf vg h := k.same (below_sameIn hB hh)
theorem HostIn.allocK {w : World} {lo hi : Nat} {vf vg : Value} {h : Hst} (k : HostIn w lo hi vf vg h) (hh : hi ≤ w.heap.size) (o : Obj) : HostIn (w.alloc o) lo hi vf vg h := k.belowK ((Below.refl _ _).alloc (Nat.le_refl _) _) hh
theorem OwnHost.allocK {w : World} {lo hi : Nat} {vf vg : Value} {h : Hst} (k : OwnHost w lo hi vf vg h) (hh : hi ≤ w.heap.size) (o : Obj) : OwnHost (w.alloc o) lo hi vf vg h := k.belowK ((Below.refl _ _).alloc (Nat.le_refl _) _) hh
end Go.Proofs.Ytjegndgdpmlbaaa

/-
  A house in memory that may be written: one lodger changed, one frame, the hand.
-/
namespace Go.Proofs.Ytjegndgdpmlbaaa
open Go.RowKit

/-- A house in memory, all of it to be written. -/
def HouseW (w : World) (B L c : Nat) (h : Hst) : Prop :=
  HouseAt w B h.frames (.slice (some ⟨L, 0, none⟩) h.guests.length c) h.hand ∧ w.there B 0 34 ∧ LodsAt w L h.guests.length h.guests ∧ w.there L 0 (h.guests.length * 66) ∧ B ≠ L ∧ h.frames.length = 8 ∧ (∀ i, i < 8 → (h.frames.getD i []).length = 4) ∧ h.guests.length ≤ 2 ∧ B < w.heap.size ∧ L < w.heap.size
def setG (h : Hst) (G : Nat) (g : Gst) : Hst := ⟨h.frames, h.guests.set G g, h.hand⟩
def setF (h : Hst) (f : Nat) (zs : List Int) : Hst := ⟨h.frames.set f zs, h.guests, h.hand⟩
def setHand (h : Hst) (z : Int) : Hst := ⟨h.frames, h.guests, z⟩

/-- One element of a row of like ones written. -/
theorem set_parts {α : Type} (l : List α) (i : Nat) (a : α) (hi : i < l.length) : l.set i a = l.take i ++ (a :: l.drop (i + 1)) := by
  rw [List.set_eq_take_append_cons_drop, if_pos hi]
theorem own_parts {α : Type} (l : List α) (i : Nat) (d : α) (hi : i < l.length) : l = l.take i ++ (l.getD i d :: l.drop (i + 1)) := by
  have hcons : l.drop i = l.getD i d :: l.drop (i + 1) := by
    rw [getD_lt hi]
    exact List.drop_eq_getElem_cons hi
  rw [← hcons, List.take_append_drop]
theorem range_set {α : Type} {f : α → List Value} {n : Nat} (hf : ∀ a, (f a).length = n) (d : α) {w : World} {b o : Nat} {l : List α} (h : w.rangeAt b o (l.flatMap f)) {i : Nat} (hi : i < l.length) (a : α) (ht : w.there b (o + i * n) n) :
    (w.setCells b (o + i * n) (f a)).rangeAt b o ((l.set i a).flatMap f) := by
  rw [own_parts l i d hi, List.flatMap_append, List.flatMap_cons] at h
  rw [set_parts l i a hi, List.flatMap_append, List.flatMap_cons]
  have hl : ((l.take i).flatMap f).length = i * n := by rw [flatMap_len f n hf, List.length_take]; congr 1; omega
  have h1 := range_left h
  have h2 := range_right h hl
  have h3 := range_right h2 (hf _)
  refine range_join hl (World.rangeAt_setCells_apart h1 _ _ _ (Or.inr (Or.inl ?_))) (range_join (hf a) ?_ (World.rangeAt_setCells_apart h3 _ _ _ (Or.inr (Or.inr ?_))))
  · rw [hl]; exact Nat.le_refl _
  · exact World.rangeAt_setCells_same w b (o + i * n) (f a) (by rw [hf]; exact ht)
  · rw [hf]; exact Nat.le_refl _
theorem there_part {w : World} {b o n o' n' : Nat} (h : w.there b o n) (h1 : o ≤ o') (h2 : o' + n' ≤ o + n) : w.there b o' n' := fun j hj => by
  have := h (o' - o + j) (by omega)
  rwa [show o + (o' - o + j) = o' + j by omega] at this

theorem getD_set {α : Type} (l : List α) (i j : Nat) (a d : α) (hi : i < l.length) : (l.set i a).getD j d = if j = i then a else l.getD j d := by
  simp only [List.getD_eq_getElem?_getD]
  by_cases hj : j = i
  · subst hj; simp [hi]
  · rw [List.getElem?_set_ne (by omega), if_neg hj]
theorem getD_set_same {α : Type} (l : List α) (i : Nat) (a d : α) (hi : i < l.length) : (l.set i a).getD i d = a := by rw [getD_set _ _ _ _ _ hi, if_pos rfl]
theorem getD_set_ne {α : Type} (l : List α) {i j : Nat} (a d : α) (hj : j ≠ i) : (l.set i a).getD j d = l.getD j d := by
  simp only [List.getD_eq_getElem?_getD]
  rw [List.getElem?_set_ne (by omega)]

/-- One lodger changed: by a row of cells of it that was written. -/
theorem HouseW.lod {w : World} {B L c : Nat} {h : Hst} (hW : HouseW w B L c h) {G : Nat} (hG : G < h.guests.length) {g' : Gst} (hs : Sized g') {o : Nat} {vs : List Value} (ho : o + vs.length ≤ 66)
    (hr : (w.setCells L (G * 66 + o) vs).rangeAt L (G * 66) (lodC g')) : HouseW (w.setCells L (G * 66 + o) vs) B L c (setG h G g') := by
  obtain ⟨h1, h2, h3, h4, h5, h6, h7, h8, h9, h10⟩ := hW
  have hlen : (setG h G g').guests.length = h.guests.length := List.length_set
  refine ⟨?_, World.there_setCells h2 _ _ _, ?_, ?_, h5, h6, h7, ?_, by rw [size_setCells]; exact h9, by rw [size_setCells]; exact h10⟩
  · rw [hlen]
    exact World.rangeAt_setCells_apart h1 _ _ _ (Or.inl h5)
  · rw [hlen]
    refine ⟨hlen, by rw [size_setCells]; exact h10, fun i hi => ?_⟩
    by_cases hiG : i = G
    · subst hiG
      have e : (setG h i g').guests.getD i noG = g' := getD_set_same _ _ _ _ hi
      rw [e]
      exact ⟨hs, hr⟩
    · have e : (setG h G g').guests.getD i noG = h.guests.getD i noG := getD_set_ne _ _ _ hiG
      rw [e]
      obtain ⟨s, r⟩ := h3.2.2 i hi
      refine ⟨s, World.rangeAt_setCells_apart r _ _ _ (Or.inr ?_)⟩
      rw [lodC_len s]
      rcases Nat.lt_or_gt_of_ne hiG with hl | hl
      · left; omega
      · right; omega
  · rw [hlen]; exact World.there_setCells h4 _ _ _
  · rw [hlen]; exact h8
theorem HouseW.lodAt {w : World} {B L c : Nat} {h : Hst} (hW : HouseW w B L c h) {G : Nat} (hG : G < h.guests.length) : Sized (h.guests.getD G noG) ∧ w.rangeAt L (G * 66) (lodC (h.guests.getD G noG)) ∧ w.there L (G * 66) 66 := by
  obtain ⟨h1, h2, h3, h4, h5, h6, h7, h8, h9, h10⟩ := hW
  obtain ⟨s, r⟩ := h3.2.2 G hG
  exact ⟨s, r, there_part h4 (Nat.zero_le _) (by omega)⟩

/-- Its shades: all, one. -/
theorem HouseW.shades {w : World} {B L c : Nat} {h : Hst} (hW : HouseW w B L c h) {G : Nat} (hG : G < h.guests.length) (ss : List S4) (hl : ss.length = 6) : HouseW (w.setCells L (G * 66 + 42) (quadsC ss)) B L c (setG h G { h.guests.getD G noG with shades := ss }) := by
  obtain ⟨s, r, t⟩ := hW.lodAt hG
  have hq : (quadsC ss).length = 24 := by rw [quadsC_len, hl]
  refine hW.lod hG (g' := { h.guests.getD G noG with shades := ss }) ⟨s.1, s.2.1, s.2.2.1, hl⟩ (by omega) ?_
  have l1 : (flat (h.guests.getD G noG).maps).length = 18 := by rw [flat_len, s.1]
  have l2 : (sheetsC (h.guests.getD G noG).disk).length = 24 := by rw [sheetsC_len, s.2.1]
  have r1 := range_left r
  have r2 := range_left (range_right r l1)
  show (w.setCells L (G * 66 + 42) (quadsC ss)).rangeAt L (G * 66) (flat (h.guests.getD G noG).maps ++ (sheetsC (h.guests.getD G noG).disk ++ quadsC ss))
  refine range_join l1 (World.rangeAt_setCells_apart r1 _ _ _ (Or.inr (Or.inl (by omega)))) (range_join l2 (World.rangeAt_setCells_apart r2 _ _ _ (Or.inr (Or.inl (by omega)))) ?_)
  exact World.rangeAt_setCells_same w L (G * 66 + 42) (quadsC ss) (by rw [hq]; exact there_part t (by omega) (by omega))
theorem HouseW.shade {w : World} {B L c : Nat} {h : Hst} (hW : HouseW w B L c h) {G : Nat} (hG : G < h.guests.length) {i : Nat} (hi : i < 6) (s4 : S4) : HouseW (w.setCells L (G * 66 + (42 + i * 4)) (quadC s4)) B L c (setG h G { h.guests.getD G noG with shades := (h.guests.getD G noG).shades.set i s4 }) := by
  obtain ⟨s, r, t⟩ := hW.lodAt hG
  refine hW.lod hG (g' := { h.guests.getD G noG with shades := (h.guests.getD G noG).shades.set i s4 }) ⟨s.1, s.2.1, s.2.2.1, by rw [List.length_set]; exact s.2.2.2⟩ (by simp [quadC]; omega) ?_
  have l1 : (flat (h.guests.getD G noG).maps).length = 18 := by rw [flat_len, s.1]
  have l2 : (sheetsC (h.guests.getD G noG).disk).length = 24 := by rw [sheetsC_len, s.2.1]
  have r1 := range_left r
  have r2 := range_left (range_right r l1)
  have r3 := range_right (range_right r l1) l2
  have hq : (quadC s4).length = 4 := rfl
  show (w.setCells L (G * 66 + (42 + i * 4)) (quadC s4)).rangeAt L (G * 66) (flat (h.guests.getD G noG).maps ++ (sheetsC (h.guests.getD G noG).disk ++ quadsC ((h.guests.getD G noG).shades.set i s4)))
  refine range_join l1 (World.rangeAt_setCells_apart r1 _ _ _ (Or.inr (Or.inl (by omega)))) (range_join l2 (World.rangeAt_setCells_apart r2 _ _ _ (Or.inr (Or.inl (by omega)))) ?_)
  have := range_set (f := quadC) (n := 4) (fun _ => rfl) noS r3 (i := i) (by rw [s.2.2.2]; exact hi) s4 (there_part t (by omega) (by omega))
  rwa [show G * 66 + 18 + 24 + i * 4 = G * 66 + (42 + i * 4) by omega, show G * 66 + 18 + 24 = G * 66 + 18 + 24 from rfl] at this
/-- Its maps: one. -/
def mapC (m : E3) : List Value := [.bool m.1, .int .i64 m.2.1, .bool m.2.2]
theorem HouseW.map {w : World} {B L c : Nat} {h : Hst} (hW : HouseW w B L c h) {G : Nat} (hG : G < h.guests.length) {i : Nat} (hi : i < 6) (m : E3) : HouseW (w.setCells L (G * 66 + i * 3) (mapC m)) B L c (setG h G { h.guests.getD G noG with maps := (h.guests.getD G noG).maps.set i m }) := by
  obtain ⟨s, r, t⟩ := hW.lodAt hG
  refine hW.lod hG (g' := { h.guests.getD G noG with maps := (h.guests.getD G noG).maps.set i m }) ⟨by rw [List.length_set]; exact s.1, s.2.1, s.2.2.1, s.2.2.2⟩ (by simp [mapC]; omega) ?_
  have l1 : (flat (h.guests.getD G noG).maps).length = 18 := by rw [flat_len, s.1]
  have l1' : (flat ((h.guests.getD G noG).maps.set i m)).length = 18 := by rw [flat_len, List.length_set, s.1]
  have r1 := range_left r
  have r2 := range_right r l1
  have hq : (mapC m).length = 3 := rfl
  show (w.setCells L (G * 66 + i * 3) (mapC m)).rangeAt L (G * 66) (flat ((h.guests.getD G noG).maps.set i m) ++ (sheetsC (h.guests.getD G noG).disk ++ quadsC (h.guests.getD G noG).shades))
  refine range_join l1' ?_ (World.rangeAt_setCells_apart r2 _ _ _ (Or.inr (Or.inr (by omega))))
  exact range_set (f := fun x : E3 => [.bool x.1, .int .i64 x.2.1, .bool x.2.2]) (n := 3) (fun _ => rfl) noM r1 (i := i) (by rw [s.1]; exact hi) m (there_part t (by omega) (by omega))
/-- Its pages on disk: one. -/
theorem HouseW.disk {w : World} {B L c : Nat} {h : Hst} (hW : HouseW w B L c h) {G : Nat} (hG : G < h.guests.length) {i : Nat} (hi : i < 6) (zs : List Int) (hz : zs.length = 4) : HouseW (w.setCells L (G * 66 + (18 + i * 4)) (sheetC zs)) B L c (setG h G { h.guests.getD G noG with disk := (h.guests.getD G noG).disk.set i zs }) := by
  obtain ⟨s, r, t⟩ := hW.lodAt hG
  refine hW.lod hG (g' := { h.guests.getD G noG with disk := (h.guests.getD G noG).disk.set i zs }) ⟨s.1, by rw [List.length_set]; exact s.2.1, fun j hj => ?_, s.2.2.2⟩ (by simp [sheetC]; omega) ?_
  · show (((h.guests.getD G noG).disk.set i zs).getD j []).length = 4
    rw [getD_set _ _ _ _ _ (by rw [s.2.1]; exact hi)]
    by_cases hji : j = i
    · rw [if_pos hji]; exact hz
    · rw [if_neg hji]; exact s.2.2.1 j hj
  have l1 : (flat (h.guests.getD G noG).maps).length = 18 := by rw [flat_len, s.1]
  have l2 : (sheetsC (h.guests.getD G noG).disk).length = 24 := by rw [sheetsC_len, s.2.1]
  have l2' : (sheetsC ((h.guests.getD G noG).disk.set i zs)).length = 24 := by rw [sheetsC_len, List.length_set, s.2.1]
  have r1 := range_left r
  have r2 := range_left (range_right r l1)
  have r3 := range_right (range_right r l1) l2
  have hq : (sheetC zs).length = 4 := rfl
  show (w.setCells L (G * 66 + (18 + i * 4)) (sheetC zs)).rangeAt L (G * 66) (flat (h.guests.getD G noG).maps ++ (sheetsC ((h.guests.getD G noG).disk.set i zs) ++ quadsC (h.guests.getD G noG).shades))
  refine range_join l1 (World.rangeAt_setCells_apart r1 _ _ _ (Or.inr (Or.inl (by omega)))) (range_join l2' ?_ (World.rangeAt_setCells_apart r3 _ _ _ (Or.inr (Or.inr (by omega)))))
  have := range_set (f := sheetC) (n := 4) (fun _ => rfl) [] r2 (i := i) (by rw [s.2.1]; exact hi) zs (there_part t (by omega) (by omega))
  rwa [show G * 66 + 18 + i * 4 = G * 66 + (18 + i * 4) by omega] at this
/-- Its frames: one. -/
theorem HouseW.frame {w : World} {B L c : Nat} {h : Hst} (hW : HouseW w B L c h) {i : Nat} (hi : i < 8) (zs : List Int) (hz : zs.length = 4) : HouseW (w.setCells B (i * 4) (sheetC zs)) B L c (setF h i zs) := by
  obtain ⟨h1, h2, h3, h4, h5, h6, h7, h8, h9, h10⟩ := hW
  have hq : (sheetC zs).length = 4 := rfl
  refine ⟨?_, World.there_setCells h2 _ _ _, ⟨h3.1, by rw [size_setCells]; exact h10, fun j hj => ?_⟩, World.there_setCells h4 _ _ _, h5, by rw [← h6]; exact List.length_set, fun j hj => ?_, h8, by rw [size_setCells]; exact h9, by rw [size_setCells]; exact h10⟩
  · have l1 : (sheetsC h.frames).length = 32 := by rw [sheetsC_len, h6]
    have l1' : (sheetsC (h.frames.set i zs)).length = 32 := by rw [sheetsC_len, List.length_set, h6]
    show (w.setCells B (i * 4) (sheetC zs)).rangeAt B 0 (sheetsC (h.frames.set i zs) ++ [.slice (some ⟨L, 0, none⟩) h.guests.length c, .int .i64 h.hand])
    have r1 := range_left h1
    have r2 := range_right h1 l1
    refine range_join l1' ?_ (World.rangeAt_setCells_apart r2 _ _ _ (Or.inr (Or.inr (by omega))))
    have := range_set (f := sheetC) (n := 4) (fun _ => rfl) [] r1 (i := i) (by rw [h6]; exact hi) zs (there_part h2 (by omega) (by omega))
    rwa [Nat.zero_add] at this
  · obtain ⟨s, r⟩ := h3.2.2 j hj
    exact ⟨s, World.rangeAt_setCells_apart r _ _ _ (Or.inl (Ne.symm h5))⟩
  · show ((h.frames.set i zs).getD j []).length = 4
    rw [getD_set _ _ _ _ _ (by rw [h6]; exact hi)]
    by_cases hji : j = i
    · rw [if_pos hji]; exact hz
    · rw [if_neg hji]; exact h7 j hj
theorem HouseW.below {w w' : World} {B L c N : Nat} {h : Hst} (hW : HouseW w B L c h) (hB : Below N w w') (hb : B < N) (hl : L < N) : HouseW w' B L c h := by
  obtain ⟨h1, h2, h3, h4, h5, h6, h7, h8, h9, h10⟩ := hW
  have := hB.size
  have hs : w.heap.size ≤ w'.heap.size := hB.size
  exact ⟨range_below h1 hB hb, there_below h2 hB hb, ⟨h3.1, by omega, fun i hi => ⟨(h3.2.2 i hi).1, range_below (h3.2.2 i hi).2 hB hl⟩⟩, there_below h4 hB hl, h5, h6, h7, h8, by omega, by omega⟩
theorem HouseW.belowK {w w' : World} {B L c : Nat} {h : Hst} (hW : HouseW w B L c h) (hB : Below w.heap.size w w') : HouseW w' B L c h := hW.below hB hW.2.2.2.2.2.2.2.2.1 hW.2.2.2.2.2.2.2.2.2
theorem HouseW.drewK {w : World} {B L c : Nat} {h : Hst} (hW : HouseW w B L c h) : HouseW w.drew B L c h := hW.belowK (Below.refl _ _).drew
theorem HouseW.allocK {w : World} {B L c : Nat} {h : Hst} (hW : HouseW w B L c h) (o : Obj) : HouseW (w.alloc o) B L c h := hW.belowK ((Below.refl _ _).alloc (Nat.le_refl _) _)
theorem HouseW.lods {w : World} {B L c : Nat} {h : Hst} (hW : HouseW w B L c h) : w.cell? ⟨B, 32, none⟩ = some (.slice (some ⟨L, 0, none⟩) h.guests.length c) ∧ w.cell? ⟨B, 33, none⟩ = some (.int .i64 h.hand) := hW.1.lods hW.2.2.2.2.2.1

theorem hidE {p : Prop} (h : p) : Hid p := h
end Go.Proofs.Ytjegndgdpmlbaaa
