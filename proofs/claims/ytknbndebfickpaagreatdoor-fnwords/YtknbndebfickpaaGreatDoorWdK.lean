/- What is known of words, as the walk of FnWords wants it. -/
import Derived.Test.YtknbndebfickpaaGreatDoorWWrd
import Derived.Test.YtknbndebfickpaaGreatDoorWpw
import Derived.Test.YtknbndebfickpaaGreatDoorWdR
import Derived.Test.YtknbndebfickpaaGreatDoorEws
import Derived.Test.YtknbndebfickpaaGreatDoorDrv2
import Derived.Test.YtknbndebfickpaaGreatDoorDrv3
namespace Go.Proofs.YtknbndebfickpaaGreatDoor
open Go.RowKit

theorem wdKit : WdKit dwV ewV Tabs where
  below := fun w w' h hb => h.below hb
  few := fun t hB => by
    by_cases h : 400 < t.length
    · rw [dwV_many h]; exact Nat.zero_le _
    · rw [dwV_ok h]
      have := words_few t hB t.length false
      show (wdsM wdV cuV t.length false t).length ≤ _
      omega
  fault := fun t hB h => dw_fault t hB h
  back := fun s h => dw_ew s h
  plain := fun s => ew_plain s
  len := fun s => ew_len s
  di := fun t w hB hn h => decodeWords_any t _ w rfl hB hn h.c h.b h.h h.m
  ds := fun t w hB hn => specDecodeWords_any t _ w rfl hB hn
  ei := fun a n cap s w hl hr hn h => encodeWords_any a n cap s w hl hr hn h.b h.m
  es := fun a n cap s w hl hr hn => specEncodeWords_any a n cap s w hl hr hn
  dd := fun a n cap l w hl hr hB hn => drawDecodeWords_any a n cap l w hl hr hB hn
  de := fun a n cap l w hl hr hB hn => drawEncodeWords_any a n cap l w hl hr hB hn
end Go.Proofs.YtknbndebfickpaaGreatDoor
