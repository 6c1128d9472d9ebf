/-
  What the laws' own marking of hosts, and their looking for the marks, do: guests, and hosts.
-/
import Derived.Test.YtdamdjhnhkmncaaKHostMark0
import Derived.Test.YtdamdjhnhkmncaaKHostEq0
namespace Go.Proofs.Ytdamdjhnhkmncaa
open Go.RowKit

def cntG (g : Gst) : Nat := 3 * g.maps.length + tot g.disk g.disk.length + 4 * g.shades.length
def markG (k0 : Nat) (g : Gst) : Gst := ⟨marks k0 g.maps.length, markM (k0 + 3 * g.maps.length) g.disk, qmarks (k0 + 3 * g.maps.length + tot g.disk g.disk.length) g.shades.length⟩
def cntU (gs : List Gst) (k : Nat) : Nat := ((gs.take k).map cntG).sum
def markU (k0 k : Nat) (gs : List Gst) : List Gst := (List.range gs.length).map fun i => if i < k then markG (k0 + cntU gs i) (gs.getD i noG) else gs.getD i noG
def markGs (k0 : Nat) (gs : List Gst) : List Gst := markU k0 gs.length gs
def markHst (k0 : Nat) (h : Hst) : Hst := ⟨markM k0 h.frames, markGs (k0 + tot h.frames h.frames.length) h.guests, h.hand⟩
def cntH (h : Hst) : Nat := tot h.frames h.frames.length + cntU h.guests h.guests.length

theorem markU_len (k0 k : Nat) (gs : List Gst) : (markU k0 k gs).length = gs.length := by simp [markU]
theorem markU_get {k0 k i : Nat} {gs : List Gst} (h : i < gs.length) : (markU k0 k gs).getD i noG = if i < k then markG (k0 + cntU gs i) (gs.getD i noG) else gs.getD i noG := by
  rw [getD_lt (by rw [markU_len]; exact h)]
  simp [markU]
theorem markU_zero (k0 : Nat) (gs : List Gst) : markU k0 0 gs = gs := by
  refine List.ext_getElem (by rw [markU_len]) fun i h1 h2 => ?_
  have := markU_get (k0 := k0) (k := 0) h2
  rw [getD_lt h1] at this
  rw [this, if_neg (by omega), getD_lt h2]
theorem markU_step {k0 k : Nat} {gs : List Gst} : (markU k0 k gs).set k (markG (k0 + cntU gs k) (gs.getD k noG)) = markU k0 (k + 1) gs := by
  refine List.ext_getElem (by simp [markU_len]) fun i h1 h2 => ?_
  have hi : i < gs.length := by rw [markU_len] at h2; exact h2
  have e2 := markU_get (k0 := k0) (k := k + 1) hi
  rw [getD_lt h2] at e2
  rw [e2, List.getElem_set]
  by_cases hik : k = i
  · subst hik
    rw [if_pos rfl, if_pos (by omega)]
  · rw [if_neg hik]
    have e1 := markU_get (k0 := k0) (k := k) hi
    rw [getD_lt (by rw [markU_len]; exact hi)] at e1
    rw [e1]
    by_cases hlt : i < k
    · rw [if_pos hlt, if_pos (by omega)]
    · rw [if_neg hlt, if_neg (by omega)]
theorem cntU_step {gs : List Gst} {k : Nat} (h : k < gs.length) : cntU gs (k + 1) = cntU gs k + cntG (gs.getD k noG) := by
  unfold cntU
  rw [List.take_succ_eq_append_getElem h, List.map_append, List.sum_append, getD_lt h]
  simp
theorem cntU_mono (gs : List Gst) {j k : Nat} (h : j ≤ k) : cntU gs j ≤ cntU gs k := by
  induction k with
  | zero => rw [Nat.le_zero.1 h]; exact Nat.le_refl _
  | succ k ih =>
    rcases Nat.lt_or_ge j (k + 1) with hj | hj
    · refine Nat.le_trans (ih (by omega)) ?_
      by_cases hk : k < gs.length
      · rw [cntU_step hk]; omega
      · rw [cntU, cntU, List.take_of_length_le (by omega), List.take_of_length_le (by omega)]; exact Nat.le_refl _
    · rw [show j = k + 1 by omega]; exact Nat.le_refl _

/-- One guest of a host that is a call's own, and what comes of writing it. -/
theorem GuestsUp.open {w : World} {T lo hi n k : Nat} {gs : List Gst} (h : GuestsUp w T lo hi n gs) (hk : k < n) (hl : gs.length = n) :
    ∃ p q vm vd vs, lo ≤ p ∧ q ≤ hi ∧ (T < p ∨ q ≤ T) ∧ w.cell? ⟨T, k * 3, none⟩ = some vm ∧ w.cell? ⟨T, k * 3 + 1, none⟩ = some vd ∧ w.cell? ⟨T, k * 3 + 2, none⟩ = some vs ∧ OwnGuest w p q vm vd vs (gs.getD k noG) ∧
      ∀ (w' : World) (g' : Gst), Amid p q w w' → OwnGuest w' p q vm vd vs g' → GuestsUp w' T lo hi n (gs.set k g') := by
  obtain ⟨ps, qs, h1, h2, h3⟩ := h
  obtain ⟨vm, vd, vs, c0, c1, c2, hO⟩ := h3 k hk
  obtain ⟨a1, a2, a3⟩ := h1 k hk
  refine ⟨ps k, qs k, vm, vd, vs, a1, a2, a3, c0, c1, c2, hO, fun w' g' hA hO' => ⟨ps, qs, h1, h2, fun i hi => ?_⟩⟩
  have sT : SameIn T (T + 1) w w' := hA.same (by omega)
  obtain ⟨xm, xd, xs, d0, d1, d2, hX⟩ := h3 i hi
  refine ⟨xm, xd, xs, (sT.cell (Nat.le_refl _) (by omega)).trans d0, (sT.cell (Nat.le_refl _) (by omega)).trans d1, (sT.cell (Nat.le_refl _) (by omega)).trans d2, ?_⟩
  by_cases hik : i = k
  · subst hik
    rw [c0] at d0
    rw [c1] at d1
    rw [c2] at d2
    cases d0
    cases d1
    cases d2
    rw [show (gs.set i g').getD i noG = g' by rw [List.getD_eq_getElem?_getD, List.getElem?_set_self (by omega)]; rfl]
    exact hO'
  · rw [show (gs.set k g').getD i noG = gs.getD i noG by rw [List.getD_eq_getElem?_getD, List.getElem?_set_ne (fun e => hik e.symm), ← List.getD_eq_getElem?_getD]]
    refine hX.same (hA.same ?_)
    rcases Nat.lt_or_gt_of_ne hik with hlt | hgt
    · exact Or.inl (h2 i k hlt hk)
    · exact Or.inr (h2 k i hgt hi)

set_option maxHeartbeats 2000000 in
theorem markGuestS_any (T lo hi n cap k0 : Nat) (gs : List Gst) (w : World) (hU : GuestsUp w T lo hi n gs) (hl : gs.length = n) (hn : n ≤ 1048576) (hS : ∀ i, i < n → SmallG (gs.getD i noG)) (hc : cntU gs n ≤ 4194304) (hk0 : k0 ≤ 5000000) :
    Calls Try.prog 68 #[.slice (some ⟨T, 0, none⟩) n cap, .int .i64 k0] w fun e w' => e = .returned (.int .i64 ((k0 + cntU gs n : Nat) : Int)) ∧ GuestsUp w' T lo hi n (markGs k0 gs) ∧ Amid lo hi w w' := by
  go_enter Try.func68, Try.ntmps68
  go_wp2
  go_loopw [1, 5] (fun m i wr => ∃ k : Nat, k ≤ n ∧ i = .int .i64 k ∧ m = .int .i64 ((k0 + cntU gs k : Nat) : Int) ∧ Hid (GuestsUp wr T lo hi n (markU k0 k gs)) ∧ Hid (Amid lo hi w wr)) (fun _ i _ => n - (intOf i).toNat)
  case atStart => exact ⟨0, Nat.zero_le _, rfl, rfl, (show GuestsUp _ _ _ _ _ _ by rw [markU_zero]; exact hU), Amid.refl _ _ _⟩
  case round =>
    obtain ⟨k, hk, rfl, rfl, hE, hO⟩ := hrel
    by_cases hkl : k < n
    · obtain ⟨p, q, vm, vd, vs, p1, q1, pq, c0, c1, c2, hG, hnext⟩ := hE.out.open (k := k) hkl (by rw [markU_len]; exact hl)
      rw [markU_get (by omega), if_neg (by omega)] at hG
      have hst := cntU_step (gs := gs) (k := k) (by omega)
      have hmo := cntU_mono gs (j := k + 1) (k := n) (by omega)
      have HN : Hid (∀ (w' : World) (g' : Gst), Amid p q wr w' → OwnGuest w' p q vm vd vs g' → GuestsUp w' T lo hi n ((markU k0 k gs).set k g')) := hnext
      have HM : Hid ((markU k0 k gs).set k (markG (k0 + cntU gs k) (gs.getD k noG)) = markU k0 (k + 1) gs) := markU_step
      have hSk := hS k hkl
      obtain ⟨bm, bs, cm, cs, ad, cd, d0, d1, rfl, rfl, rfl, h1, h2, h3, h4, h5, n1, n2, n3, n4, n5, n6, n7, n8, n9⟩ := hG
      generalize gs.getD k noG = g at *
      have hcg : cntG g = 3 * g.maps.length + tot g.disk g.disk.length + 4 * g.shades.length := rfl
      generalize hlm : g.maps.length = lm at *
      generalize hld : g.disk.length = ld at *
      generalize hls : g.shades.length = ls at *
      obtain ⟨s1, s2, s3, s4⟩ := hSk
      rw [hlm] at s1
      rw [hls] at s2
      rw [hld] at s3
      have hki : (k : Int) < (n : Int) := by omega
      have hTw : T < wr.heap.size := World.block_lt_of_cell? _ _ c0
      generalize hN : k0 + cntU gs k = N at *
      have HX : Hid (((k0 + cntU gs (k + 1) : Nat) : Int) = ((N + 3 * lm + tot g.disk ld + 4 * ls : Nat) : Int)) := (show _ = _ by omega)
      have hNb : N ≤ 10000000 - 4194304 + cntU gs k := by omega
      have hbd : N + 3 * lm + tot g.disk ld + 4 * ls ≤ 9300000 := by omega
      have htd : tot g.disk ld ≤ 4194304 := by omega
      clear hst hmo hcg hNb
      go_wp2_with (fail)
      refine (markMapS_any bm lm cm N wr h2 s1 (by omega)).mono ?_
      rintro e w1 ⟨rfl, E1, R1, O1⟩
      have A1 := O1.amid
      have c1' := ((A1.same (lo := T) (hi := T + 1) (by omega)).cell (o := k * 3 + 1) (Nat.le_refl _) (Nat.lt_succ_self _)).trans c1
      have c2' := ((A1.same (lo := T) (hi := T + 1) (by omega)).cell (o := k * 3 + 2) (Nat.le_refl _) (Nat.lt_succ_self _)).trans c2
      have h5 := h5.same (A1.same (by omega))
      have h4 := h4.same (A1.same (lo := bs) (hi := bs + 1) (by omega)) (Nat.le_refl _) (Nat.lt_succ_self _)
      have hTw1 : T < w1.heap.size := World.block_lt_of_cell? _ _ c1'
      go_wp2_with (fail)
      refine (markIntSS_any d0 d1 ad ld cd (N + 3 * lm) g.disk w1 h5 s3 (by omega) (by omega)).mono ?_
      rintro e w2 ⟨rfl, M2, A2⟩
      have c2'' := ((A2.same (lo := T) (hi := T + 1) (by omega)).cell (o := k * 3 + 2) (Nat.le_refl _) (Nat.lt_succ_self _)).trans c2'
      have h4 := h4.same (A2.same (lo := bs) (hi := bs + 1) (by omega)) (Nat.le_refl _) (Nat.lt_succ_self _)
      have E1 := E1.sameH (A2.same (lo := bm) (hi := bm + 1) (by omega)) (Nat.le_refl _) (Nat.lt_succ_self _)
      have R1 := R1.same (A2.same (lo := bm) (hi := bm + 1) (by omega)) (Nat.le_refl _) (Nat.lt_succ_self _)
      have hTw2 : T < w2.heap.size := World.block_lt_of_cell? _ _ c2''
      go_wp2_with (fail)
      refine (markShadeS_any bs ls cs (N + 3 * lm + tot g.disk ld) w2 h4 s2 (by omega)).mono ?_
      rintro e w3 ⟨rfl, Q3, R3, O3⟩
      have A3 := O3.amid
      have M2 := M2.same (A3.same (by omega))
      have E1 := E1.sameH (A3.same (lo := bm) (hi := bm + 1) (by omega)) (Nat.le_refl _) (Nat.lt_succ_self _)
      have R1 := R1.same (A3.same (lo := bm) (hi := bm + 1) (by omega)) (Nat.le_refl _) (Nat.lt_succ_self _)
      have A : Amid p q wr w3 := ((A1.wide n1 (by omega)).trans (A2.wide n5 n6)).trans (A3.wide n3 (by omega))
      have hG3 : OwnGuest w3 p q (.slice (some ⟨bm, 0, none⟩) lm cm) (.slice ad ld cd) (.slice (some ⟨bs, 0, none⟩) ls cs) (markG N g) := by
        refine ⟨bm, bs, cm, cs, ad, cd, d0, d1, ?_, ?_, ?_, ?_, ?_, ?_, ?_, ?_, n1, n2, n3, n4, n5, n6, n7, n8, n9⟩
        · show _ = Value.slice _ (marks N g.maps.length).length _
          rw [marks_len, hlm]
        · show _ = Value.slice _ (markM (N + 3 * g.maps.length) g.disk).length _
          rw [markM, markK_len, hld]
        · show _ = Value.slice _ (qmarks (N + 3 * g.maps.length + tot g.disk g.disk.length) g.shades.length).length _
          rw [qmarks_len, hls]
        · show Ents w3 bm 0 (marks N g.maps.length)
          rw [hlm]; exact E1
        · show Room w3 bm ((marks N g.maps.length).length * 3)
          rw [marks_len, hlm]; exact R1
        · show Quads w3 bs 0 (qmarks (N + 3 * g.maps.length + tot g.disk g.disk.length) g.shades.length)
          rw [hlm, hld, hls]; exact Q3
        · show Room w3 bs ((qmarks (N + 3 * g.maps.length + tot g.disk g.disk.length) g.shades.length).length * 4)
          rw [qmarks_len, hls]; exact R3
        · show OwnMem w3 d0 d1 ad (markM (N + 3 * g.maps.length) g.disk).length (markM (N + 3 * g.maps.length) g.disk)
          rw [show (markM (N + 3 * g.maps.length) g.disk).length = ld by rw [markM, markK_len, hld], hlm]; exact M2
      have hU3 := HN.out w3 _ A hG3
      rw [HM.out] at hU3
      have HU3 : Hid (GuestsUp w3 T lo hi n (markU k0 (k + 1) gs)) := hU3
      have HA : Hid (Amid lo hi w w3) := hO.out.trans (A.wide p1 q1)
      clear hU3 hG3 A A1 A2 A3 E1 R1 Q3 R3 M2 O1 O3 HN HM h1 h2 h3 h4 h5 hE hO
      go_wp2
      go_roundw
      case rel => exact ⟨k + 1, by omega, by go_num, by rw [HX.out]; go_num, HU3, HA⟩
      case measure => simp [intOf]; omega
    · have hkk : k = n := by omega
      subst hkk
      have HE : Hid (GuestsUp wr T lo hi k (markGs k0 gs)) := by
        have := hE.out
        rw [markGs, hl]
        exact this
      clear hE
      go_wp2
      go_ret
      exact ⟨rfl, HE.out, hO.out⟩

set_option maxHeartbeats 2000000 in
theorem heldGuestS_any (lo hi : Nat) (a : Option Addr) (n cap k0 : Nat) (gs : List Gst) (w : World) (h : IsGuests w lo hi a n (markGs k0 gs)) (hl : gs.length = n) (hn : n ≤ 1048576) (hS : ∀ i, i < n → SmallG (gs.getD i noG)) (hc : cntU gs n ≤ 4194304) (hk0 : k0 ≤ 5000000) :
    Calls Try.prog 70 #[.slice a n cap, .int .i64 k0] w fun e w' => e = .returned (.int .i64 ((k0 + cntU gs n : Nat) : Int)) ∧ w' = w := by
  go_enter Try.func70, Try.ntmps70
  go_wp2
  go_loop [1, 5] (fun m i => ∃ k : Nat, k ≤ n ∧ i = .int .i64 k ∧ m = .int .i64 ((k0 + cntU gs k : Nat) : Int)) (fun _ i => n - (intOf i).toNat)
  case atStart => exact ⟨0, Nat.zero_le _, rfl, rfl⟩
  case round =>
    obtain ⟨k, hk, rfl, rfl⟩ := hrel
    by_cases hkl : k < n
    · obtain ⟨b, o, am, cm, ad, cd, aS, cs, rfl, hb1, hb2, q1, q2, q3, hM, hD, hSh⟩ := h.get hkl
      have hg : (markGs k0 gs).getD k noG = markG (k0 + cntU gs k) (gs.getD k noG) := by rw [markGs, markU_get (by omega), if_pos (by omega)]
      rw [hg] at q1 q2 q3 hM hD hSh
      have hst := cntU_step (gs := gs) (k := k) (by omega)
      have hmo := cntU_mono gs (j := k + 1) (k := n) (by omega)
      obtain ⟨s1, s2, s3, s4⟩ := hS k hkl
      clear hg
      generalize gs.getD k noG = g at *
      have hcg : cntG g = 3 * g.maps.length + tot g.disk g.disk.length + 4 * g.shades.length := rfl
      have e1 : (markG (k0 + cntU gs k) g).maps = marks (k0 + cntU gs k) g.maps.length := rfl
      have e2 : (markG (k0 + cntU gs k) g).disk = markM (k0 + cntU gs k + 3 * g.maps.length) g.disk := rfl
      have e3 : (markG (k0 + cntU gs k) g).shades = qmarks (k0 + cntU gs k + 3 * g.maps.length + tot g.disk g.disk.length) g.shades.length := rfl
      rw [e1, marks_len] at q1 hM
      rw [e2, show (markM (k0 + cntU gs k + 3 * g.maps.length) g.disk).length = g.disk.length by rw [markM, markK_len]] at q2 hD
      rw [e3, qmarks_len] at q3 hSh
      clear e1 e2 e3
      generalize hlm : g.maps.length = lm at *
      generalize hld : g.disk.length = ld at *
      generalize hls : g.shades.length = ls at *
      generalize hN : k0 + cntU gs k = N at *
      have HX : Hid (((k0 + cntU gs (k + 1) : Nat) : Int) = ((N + 3 * lm + tot g.disk ld + 4 * ls : Nat) : Int)) := (show _ = _ by omega)
      have hbd : N + 3 * lm + tot g.disk ld + 4 * ls ≤ 9300000 := by omega
      have htd : tot g.disk ld ≤ 4194304 := by omega
      have hki : (k : Int) < (n : Int) := by omega
      have hM := heldMapS_any lo hi am lm cm N w hM s1 (by omega)
      have hD := heldIntSS_any lo hi ad ld cd (N + 3 * lm) g.disk w hld hD s3 htd (by omega)
      have hSh := heldShadeS_any lo hi aS ls cs (N + 3 * lm + tot g.disk ld) w hSh s2 (by omega)
      have HP : Hid (((N + 3 * lm : Nat) : Int) = (N : Int) + 3 * (lm : Int)) := (show _ = _ by omega)
      have z1 : ¬ ((N + 3 * lm : Nat) : Int) < 0 := by omega
      have z2 : ¬ ((N + 3 * lm + tot g.disk ld : Nat) : Int) < 0 := by omega
      have z3 : ¬ ((N + 3 * lm + tot g.disk ld + 4 * ls : Nat) : Int) < 0 := by omega
      generalize hA1 : N + 3 * lm = X1 at *
      generalize hA2 : X1 + tot g.disk ld = X2 at *
      generalize hA3 : X2 + 4 * ls = X3 at *
      clear hst hmo hcg hN hA1 hA2 hA3 hlm hld hls HP
      go_wp2_with (fail)
      refine hM.mono ?_
      rintro e w1 ⟨rfl, rfl⟩
      go_wp2_with (fail)
      refine hD.mono ?_
      rintro e w2 ⟨rfl, rfl⟩
      go_wp2_with (fail)
      refine hSh.mono ?_
      rintro e w3 ⟨rfl, rfl⟩
      go_wp2
      go_round
      case rel => exact ⟨k + 1, by omega, by go_num, by rw [HX.out]⟩
      case measure => simp [intOf]; omega
    · have hkk : k = n := by omega
      subst hkk
      go_wp2
      go_ret
      exact ⟨rfl, rfl⟩

set_option maxHeartbeats 400000 in
theorem markGuestS_nil (a : Option Addr) (cap : Nat) (k : Int) (w : World) :
    Calls Try.prog 68 #[.slice a 0 cap, .int .i64 k] w fun e w' => e = .returned (.int .i64 k) ∧ w' = w := by
  go_enter Try.func68, Try.ntmps68
  go_wp2
  go_loop [1, 5] (fun n i => i = .int .i64 0 ∧ n = .int .i64 k) (fun _ _ => 0)
  case atStart => exact ⟨rfl, rfl⟩
  case round =>
    obtain ⟨rfl, rfl⟩ := hrel
    go_wp2
    go_ret
    exact ⟨rfl, rfl⟩

set_option maxHeartbeats 1000000 in
theorem markHost_any (lo hi k0 : Nat) (vf vg : Value) (h : Hst) (z : Int) (w : World) (hO : OwnHost w lo hi vf vg h) (hlo : lo ≤ hi) (hh : hi ≤ w.heap.size) (hS : SmallH h) (hc : cntH h ≤ 4194304) (hk0 : k0 ≤ 500000) :
    Calls Try.prog 25 #[.agg #[vf, vg, .int .i64 z], .int .i64 k0] w fun e w' => e = .returned (.int .i64 ((k0 + cntH h : Nat) : Int)) ∧ OwnHost w' lo hi vf vg (markHst k0 h) ∧ Below lo w w' ∧ SameIn hi w.heap.size w w' := by
  obtain ⟨af, cf, m0, m1, rfl, hM, l1, l2, ag, cg, rfl, hG⟩ := hO
  obtain ⟨S1, S2, S3, S4⟩ := hS
  have hcH : cntH h = tot h.frames h.frames.length + cntU h.guests h.guests.length := rfl
  obtain ⟨W, hW⟩ : ∃ W, W = w.alloc (.cells #[.slice af h.frames.length cf, .slice ag h.guests.length cg, .int .i64 z] 27) := ⟨_, rfl⟩
  have B0 : Below w.heap.size w W := by rw [hW]; exact (Below.refl _ _).alloc (Nat.le_refl _) _
  have hsW : W.heap.size = w.heap.size + 1 := by rw [hW]; simp
  have k1 : W.cell? ⟨w.heap.size, 1, none⟩ = some (.slice ag h.guests.length cg) := by rw [hW]; simp
  have hM := hM.same (below_sameIn B0 (by omega))
  have hG : h.guests.length = 0 ∨ ∃ T g0, ag = some ⟨T, 0, none⟩ ∧ lo ≤ T ∧ T < hi ∧ (T < m0 ∨ m1 ≤ T) ∧ m1 ≤ g0 ∧ lo ≤ g0 ∧ GuestsUp W T g0 hi h.guests.length h.guests := by
    rcases hG with h0 | ⟨T, g0, rfl, t1, t2, t3, t4, t5, hU⟩
    · exact Or.inl h0
    · exact Or.inr ⟨T, g0, rfl, t1, t2, t3, t4, t5, hU.same (below_sameIn B0 hh) (below_sameIn B0 (by omega))⟩
  have eL : (markHst k0 h).frames.length = h.frames.length := by show (markM k0 h.frames).length = _; rw [markM, markK_len]
  have eG : (markHst k0 h).guests.length = h.guests.length := by show (markGs _ h.guests).length = _; rw [markGs, markU_len]
  go_enter Try.func25, Try.ntmps25
  go_wp2_with (fail)
  rw [← hW]
  refine (markIntSS_any m0 m1 af h.frames.length cf k0 h.frames W hM S1 (by omega) (by omega)).mono ?_
  rintro e w1 ⟨rfl, M1, A1⟩
  clear hW
  have k1 := ((A1.same (lo := w.heap.size) (hi := w.heap.size + 1) (by omega)).cell (o := 1) (Nat.le_refl _) (Nat.lt_succ_self _)).trans k1
  have hs1 := A1.size
  have hw1 : w.heap.size < w1.heap.size := by omega
  generalize hX : k0 + tot h.frames h.frames.length = X at *
  go_wp2_with (fail)
  rcases hG with h0 | ⟨T, g0, rfl, t1, t2, t3, t4, t5, hU⟩
  · have hN := markGuestS_nil ag cg X w1
    rw [← h0] at hN
    refine hN.mono ?_
    rintro e w2 ⟨rfl, rfl⟩
    have hgn : h.guests = [] := List.eq_nil_of_length_eq_zero h0
    have HX : Hid (((k0 + cntH h : Nat) : Int) = (X : Int)) := (show _ = _ by rw [hcH, hgn]; simp [cntU]; omega)
    have HO : Hid (OwnHost w2 lo hi (.slice af h.frames.length cf) (.slice ag h.guests.length cg) (markHst k0 h)) :=
      ⟨af, cf, m0, m1, by rw [eL], by rw [eL]; exact M1, l1, l2, ag, cg, by rw [eG], Or.inl (by rw [eG]; exact h0)⟩
    have HB : Hid (Below lo w w2) := (B0.mono (by omega)).trans (A1.below (B := lo) l1)
    have HS : Hid (SameIn hi w.heap.size w w2) := fun j j1 j2 => by
      rw [A1.block j (by omega), B0.block j (by omega)]
    clear A1 M1 hM hX hN hgn
    go_wp2
    go_ret
    exact ⟨by rw [HX.out]; rfl, HO.out, HB.out, HS.out⟩
  · have hU := hU.same (A1.same (by omega)) (A1.same (lo := T) (hi := T + 1) (by omega))
    refine (markGuestS_any T g0 hi h.guests.length cg X h.guests w1 hU rfl S3 S4 (by omega) (by omega)).mono ?_
    rintro e w2 ⟨rfl, U2, A2⟩
    have M2 := M1.same (A2.same (by omega))
    have HX : Hid (((k0 + cntH h : Nat) : Int) = ((X + cntU h.guests h.guests.length : Nat) : Int)) := (show _ = _ by omega)
    have HO : Hid (OwnHost w2 lo hi (.slice af h.frames.length cf) (.slice (some ⟨T, 0, none⟩) h.guests.length cg) (markHst k0 h)) :=
      ⟨af, cf, m0, m1, by rw [eL], by rw [eL]; exact M2, l1, l2, _, cg, by rw [eG], Or.inr ⟨T, g0, rfl, t1, t2, t3, t4, t5, by rw [eG]; show GuestsUp w2 T g0 hi _ (markGs (k0 + tot h.frames h.frames.length) h.guests); rw [hX]; exact U2⟩⟩
    have HB : Hid (Below lo w w2) := by
      have b1 := A1.below (B := lo) l1
      have b2 := A2.below (B := lo) t5
      exact ((B0.mono (by omega)).trans b1).trans b2
    have HS : Hid (SameIn hi w.heap.size w w2) := fun j j1 j2 => by
      rw [A2.block j (by omega), A1.block j (by omega), B0.block j (by omega)]
    clear U2 M2 A1 A2 M1 hM hU hX
    go_wp2
    go_ret
    exact ⟨by rw [HX.out]; rfl, HO.out, HB.out, HS.out⟩

set_option maxHeartbeats 1000000 in
theorem heldHost_any (lo hi k0 : Nat) (vf vg : Value) (h : Hst) (z : Int) (w : World) (hO : HostIn w lo hi vf vg (markHst k0 h)) (hh : hi ≤ w.heap.size) (hS : SmallH h) (hc : cntH h ≤ 4194304) (hk0 : k0 ≤ 500000) :
    Calls Try.prog 26 #[.agg #[vf, vg, .int .i64 z], .int .i64 k0] w fun e w' => e = .returned (.int .i64 ((k0 + cntH h : Nat) : Int)) ∧ Below w.heap.size w w' := by
  obtain ⟨⟨a1, c1, rfl, h1⟩, a2, c2, rfl, h2⟩ := hO
  obtain ⟨S1, S2, S3, S4⟩ := hS
  have hcH : cntH h = tot h.frames h.frames.length + cntU h.guests h.guests.length := rfl
  have eL : (markHst k0 h).frames.length = h.frames.length := by show (markM k0 h.frames).length = _; rw [markM, markK_len]
  have eG : (markHst k0 h).guests.length = h.guests.length := by show (markGs _ h.guests).length = _; rw [markGs, markU_len]
  rw [eL] at h1 ⊢
  rw [eG] at h2 ⊢
  have h1 : IsMem w lo hi a1 h.frames.length (markM k0 h.frames) := h1
  have h2 : IsGuests w lo hi a2 h.guests.length (markGs (k0 + tot h.frames h.frames.length) h.guests) := h2
  obtain ⟨W, hW⟩ : ∃ W, W = w.alloc (.cells #[.slice a1 h.frames.length c1, .slice a2 h.guests.length c2, .int .i64 z] 27) := ⟨_, rfl⟩
  have B0 : Below w.heap.size w W := by rw [hW]; exact (Below.refl _ _).alloc (Nat.le_refl _) _
  have hsW : W.heap.size = w.heap.size + 1 := by rw [hW]; simp
  have k1 : W.cell? ⟨w.heap.size, 1, none⟩ = some (.slice a2 h.guests.length c2) := by rw [hW]; simp
  have h1 := h1.same (below_sameIn B0 (by omega))
  have h2 := h2.same (below_sameIn B0 (by omega))
  have hw1 : w.heap.size < W.heap.size := by omega
  have H1 := heldIntSS_any lo hi a1 h.frames.length c1 k0 h.frames W rfl h1 S1 (by omega) (by omega)
  have H2 := heldGuestS_any lo hi a2 h.guests.length c2 (k0 + tot h.frames h.frames.length) h.guests W h2 rfl S3 S4 (by omega) (by omega)
  have HX : Hid (((k0 + cntH h : Nat) : Int) = ((k0 + tot h.frames h.frames.length + cntU h.guests h.guests.length : Nat) : Int)) := (show _ = _ by omega)
  have z1 : ¬ ((k0 + tot h.frames h.frames.length : Nat) : Int) < 0 := by omega
  have z2 : ¬ ((k0 + tot h.frames h.frames.length + cntU h.guests h.guests.length : Nat) : Int) < 0 := by omega
  generalize k0 + tot h.frames h.frames.length = X at *
  generalize X + cntU h.guests h.guests.length = Y at *
  clear hcH h1 h2
  go_enter Try.func26, Try.ntmps26
  go_wp2_with (fail)
  rw [← hW]
  clear hW
  refine H1.mono ?_
  rintro e w1 ⟨rfl, rfl⟩
  go_wp2_with (fail)
  refine H2.mono ?_
  rintro e w2 ⟨rfl, rfl⟩
  go_wp2
  go_ret
  exact ⟨by rw [HX.out]; rfl, B0⟩
end Go.Proofs.Ytdamdjhnhkmncaa
