/- The law ModesTells: walked. -/
import Derived.Test.YtijknodbaddelaaMoRText
namespace Go.Proofs.Ytijknodbaddelaa.Mo
open Go.RowKit

set_option maxRecDepth 100000 in
set_option maxHeartbeats 400000 in
theorem tells_walk (k : UInt8) (mode : Int) (w : World) :
    Calls Try.prog 4 #[.int .u8 k.toNat, .int .i64 mode] w fun e w' => e = .returned (.bool true) ∧ Below w.heap.size w w' := by
  have C1 := hide (fun W => text_any k mode W)
  have C2 := hide (fun W => rtext_any k mode W)
  have C3 := hide (fun W => octal_any mode W)
  have C4 := hide (fun W => roctal_any mode W)
  generalize (⟨(textP k mode).toArray⟩ : ByteArray) = T at *
  generalize (⟨(octP mode).toArray⟩ : ByteArray) = O at *
  go_enter Try.func4, Try.ntmps4
  go_wp2_with fail
  refine (unhide C1 _).mono ?_
  rintro e w1 ⟨rfl, hb1⟩
  have HB1 := hide hb1
  clear hb1
  go_wp2_with fail
  refine (unhide C2 _).mono ?_
  rintro e w2 ⟨rfl, hb2⟩
  have HB2 := hide ((unhide HB1).trans (hb2.mono (unhide HB1).size))
  clear hb2 HB1
  go_wp2_with fail
  refine (unhide C3 _).mono ?_
  rintro e w3 ⟨rfl, hb3⟩
  have HB3 := hide ((unhide HB2).trans (hb3.mono (unhide HB2).size))
  clear hb3 HB2
  go_wp2_with fail
  refine (unhide C4 _).mono ?_
  rintro e w4 ⟨rfl, hb4⟩
  have HB4 := hide ((unhide HB3).trans (hb4.mono (unhide HB3).size))
  clear hb4 HB3
  go_wp2_with fail
  go_ret
  exact ⟨rfl, unhide HB4⟩
end Go.Proofs.Ytijknodbaddelaa.Mo
