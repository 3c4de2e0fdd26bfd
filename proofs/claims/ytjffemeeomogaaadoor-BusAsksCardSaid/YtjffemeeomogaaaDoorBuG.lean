/- The law BusAsks. -/
import Derived.Test.YtjffemeeomogaaaDoorBuF
namespace Go.Proofs.YtjffemeeomogaaaDoor.Bu
open Go.ChangeShapes Go.WideShapes Go.ChangeAt Go.RowKit Own Ro

set_option maxRecDepth 100000 in
set_option maxHeartbeats 8000000 in
theorem asks_any (i t n s : Int) (w : World) (hT : Tb w) (hn : n ≤ 9223372036854775807) (hs : s ≤ 9223372036854775807) : Calls Tryd.prog 7 #[.int .i64 i, .int .i64 t, .int .i64 n, .int .i64 s] w (fun e w' => e = .returned (.bool true) ∧ Below w.heap.size w w') := by
  have HT := Lib.hid hT
  have H1 := Lib.hid (begin_any i w hT)
  have H2 := Lib.hid (refBegin_any i w)
  have H3 := Lib.hid (fun V (hV : Tb V) => which_any t V hV)
  have H4 := Lib.hid (fun V => refWhich_any t V)
  have H5 := Lib.hid (fun V (hV : Tb V) => slot_any i n s V hV hn hs)
  have H6 := Lib.hid (fun V => refSlot_any i n s V hn hs)
  clear hT hn hs
  generalize begV i = b at H1 H2
  generalize whV t = c at H3 H4
  generalize sloV i n s = d at H5 H6
  obtain ⟨b1, b2⟩ := b
  obtain ⟨c1, c2⟩ := c
  obtain ⟨d1, d2⟩ := d
  simp only at H1 H2 H3 H4 H5 H6
  go_enter Tryd.func7, Tryd.ntmps7
  go_wp2_with fail
  refine H1.out.mono ?_
  rintro e w1 ⟨rfl, hw⟩
  rw [hw]
  clear hw w1
  go_wp2_with fail
  refine H2.out.mono ?_
  rintro e w2 ⟨rfl, hb⟩
  have HB2 := Lib.hid hb
  have HT2 := Lib.hid (HT.out.below hb)
  clear hb
  go_wp2_with fail
  refine (H3.out w2 HT2.out).mono ?_
  rintro e w3 ⟨rfl, hw⟩
  rw [hw]
  clear hw w3
  go_wp2_with fail
  refine (H4.out w2).mono ?_
  rintro e w4 ⟨rfl, hb⟩
  have HB4 := Lib.hid (bt HB2.out hb)
  have HT4 := Lib.hid (HT2.out.below hb)
  clear hb
  go_wp2_with fail
  refine (H5.out w4 HT4.out).mono ?_
  rintro e w5 ⟨rfl, hw⟩
  rw [hw]
  clear hw w5
  go_wp2_with fail
  refine (H6.out w4).mono ?_
  rintro e w6 ⟨rfl, hb⟩
  have HB6 := Lib.hid (bt HB4.out hb)
  clear hb
  go_wp2_with fail
  go_ret
  exact ⟨rfl, HB6.out⟩
end Go.Proofs.YtjffemeeomogaaaDoor.Bu
