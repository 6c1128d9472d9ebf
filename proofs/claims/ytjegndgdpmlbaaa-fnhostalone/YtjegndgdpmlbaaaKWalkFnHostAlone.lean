/-
  The walk of the law FnHostAlone.
-/
import Derived.Test.YtjegndgdpmlbaaaKLkAlone0
import Derived.Test.YtjegndgdpmlbaaaKHostDraw6
import Derived.Test.YtjegndgdpmlbaaaKH
import Derived.Test.YtjegndgdpmlbaaaKHostOk1
set_option linter.unusedSimpArgs false
namespace Go.Proofs.Ytjegndgdpmlbaaa
open Go.RowKit
attribute [local go_sem ↓] Go.wp_at_zero Go.wp_at_succ
set_option maxRecDepth 100000 in
set_option maxHeartbeats 8000000 in
theorem walk_FnHostAlone (a0 : Option Addr) (len0 cap0 : Nat) (z0 : List Int) (w : World) (w0 : IsRow .u8 w a0 len0 cap0 z0) :
    Calls Try.prog 3 #[.slice a0 len0 cap0] w fun e w' => e = .returned (.bool true) ∧ Below w.heap.size w w' := by
  by_cases hbig : (1048576 : Int) < (len0 : Int)
  · go_enter Try.func3, Try.ntmps3
    go_wp2
    go_ret
    exact ⟨rfl, Below.refl _ _⟩
  have hdr := drawOk a0 len0 cap0 z0 w w0
  clear w0
  go_enter Try.func3, Try.ntmps3
  go_wp2_with (fail)
  refine hdr.mono ?_
  rintro e v1 ⟨vf, vg, h, rfl, hd, B1⟩
  clear hdr
  obtain ⟨hI, hS, wf, hg1, hg4⟩ := hd
  have hI' := hI
  obtain ⟨⟨af, cf, rfl, _⟩, ag, cg, rfl, _⟩ := hI'
  obtain ⟨lf, hlf⟩ : ∃ lf, h.frames.length = lf := ⟨_, rfl⟩
  obtain ⟨n, hn⟩ : ∃ n, h.guests.length = n := ⟨_, rfl⟩
  rw [hlf, hn] at hI
  obtain ⟨W1, hW1⟩ : ∃ W1, W1 = v1.alloc (.cells #[.slice af lf cf, .slice ag n cg, .int .i64 h.hand] 26) := ⟨_, rfl⟩
  have hv := HV.new hI (Nat.le_refl _) 26
  rw [← hW1] at hv
  have C1 : Below v1.heap.size v1 W1 := by rw [hW1]; exact (Below.refl _ _).alloc (Nat.le_refl _) _
  have HB := hidE (B1.trans (C1.mono B1.size))
  obtain ⟨b, hb⟩ : ∃ b, b = v1.heap.size := ⟨_, rfl⟩
  rw [← hb] at hv
  have him := implHostOk _ _ af ag lf cf n cg h W1 hv.2.2.1 hv.2.2.2 wf
  rw [hlf, hn]
  clear C1 B1 hI
  go_wp2_with (fail)
  rw [← hW1, ← hb]
  clear hW1 hb
  refine him.mono ?_
  rintro e v2 ⟨rfl, B2⟩
  clear him
  have hv2 := hv.below B2
  have HB2 := hidE (HB.out.trans (B2.mono HB.out.size))
  clear hv B2 HB
  have hsp := hostOk_core _ _ af ag lf cf n cg h v2 hlf hv2.2.2.1.parts.1 hn hv2.2.2.1.parts.2 hv2.2.2.2 hS
  obtain ⟨⟨q0, q1, q2⟩, lb, _⟩ := id hv2
  go_wp2_with (fail)
  refine hsp.mono ?_
  rintro e v3 ⟨rfl, B3⟩
  clear hsp q0 q1 q2 lb
  have hv3 := hv2.below B3
  have HB3 := hidE (HB2.out.trans (B3.mono HB2.out.size))
  clear hv2 B3 HB2
  obtain ⟨⟨q0, q1, q2⟩, lb, _⟩ := id hv3
  obtain ⟨ok, hok⟩ : ∃ ok, okHost h = ok := ⟨_, rfl⟩
  rw [hok]
  cases ok
  · have hsp := hostOk_core _ _ af ag lf cf n cg h v3 hlf hv3.2.2.1.parts.1 hn hv3.2.2.1.parts.2 hv3.2.2.2 hS
    rw [hok] at hsp
    go_wp2_with (fail)
    refine hsp.mono ?_
    rintro e v4 ⟨rfl, B4⟩
    have HB4 := hidE (HB3.out.trans (B4.mono HB3.out.size))
    clear hsp B4 HB3
    go_wp2
    go_ret
    exact ⟨rfl, HB4.out⟩
  · have hal := lkAlone_ok _ _ af ag lf cf n cg h v3 hv3.2.2.1 hv3.2.2.2 (okHost_of hok) hn
    go_wp2_with (fail)
    refine hal.mono ?_
    rintro e v4 ⟨rfl, B4⟩
    have HB4 := hidE (HB3.out.trans (B4.mono HB3.out.size))
    clear hal B4 HB3
    go_wp2
    go_ret
    exact ⟨rfl, HB4.out⟩
end Go.Proofs.Ytjegndgdpmlbaaa
