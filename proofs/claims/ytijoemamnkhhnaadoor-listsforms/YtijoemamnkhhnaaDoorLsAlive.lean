/- alive answers true. -/
import Derived.Test.YtijoemamnkhhnaaDoorLsParse
import Derived.Test.YtijoemamnkhhnaaDoorLsText2
namespace Go.Proofs.YtijoemamnkhhnaaDoor.Ls
open Go.RowKit Go.Shelf

theorem parse_rg (s : ByteArray) (w : World) (hs : s.size ≤ 4611686018427387904) :
    Calls Tryd.prog 16 #[.string s] w fun e w' => ∃ a cap, e = .returned (.tuple #[.slice a (parseL (bs s)).length cap, .int .i64 (parseE (bs s))]) ∧ Rg w' a (parseL (bs s)).length cap (parseL (bs s)) ∧ Below w.heap.size w w' := by
  refine (parse_any s w hs).mono ?_
  rintro e w' ⟨v, rfl, hO, hB⟩
  obtain ⟨a, cap, rfl, hR⟩ := rg_of_owns hO
  exact ⟨a, cap, rfl, hR, hB⟩
theorem parse_is {s : ByteArray} {l : List R} {n : Int} (w : World) (hs : s.size ≤ 4611686018427387904) (h1 : parseL (bs s) = l) (h2 : parseE (bs s) = n) :
    Calls Tryd.prog 16 #[.string s] w fun e w' => ∃ a cap, e = .returned (.tuple #[.slice a l.length cap, .int .i64 n]) ∧ Rg w' a l.length cap l ∧ Below w.heap.size w w' := by
  subst h1 h2; exact parse_rg s w hs
theorem text_is {a : Option Addr} {len cap c' : Nat} {rs : List R} {w : World} {t : ByteArray} {n : Int} (h : Rg w a len c' rs) (hlen : len ≤ 4611686018427387904) (ht : Tab w) (h1 : (⟨(textL rs).toArray⟩ : ByteArray) = t) (h2 : textE rs = n) :
    Calls Tryd.prog 10 #[.slice a len cap] w fun e w' => e = .returned (.tuple #[.string t, .int .i64 n]) ∧ Below w.heap.size w w' := by
  have := text_any a len cap c' rs w h hlen ht
  unfold textV at this
  rw [h1, h2] at this
  exact this
theorem Rg.head {w : World} {a : Option Addr} {n cap : Nat} {rs : List R} (h : Rg w a n cap rs) (m : Nat) (hm : m ≤ n) (hm0 : 0 < m) : Rg w a m cap (rs.take m) := by
  refine ⟨by rw [List.length_take, h.len]; omega, by have := h.le; omega, fun e => by have := h.nil e; omega, ?_⟩
  rcases h.cells with h0 | ⟨b, off, e, hb, hc⟩
  · omega
  · refine .inr ⟨b, off, e, hb, fun i hi => ?_⟩
    have := hc i (by omega)
    have e : (rs.take m).getD i rz = rs.getD i rz := by simp [List.getD, hi]
    rw [e]
    exact this

abbrev al : List R := [(1, 1), (3, 5), (1, 2), (7, 0)]
theorem p1 : parseL (bs { data := #[49, 44, 51, 45, 53, 44, 45, 50, 44, 55, 45] }) = al := by decide +kernel
theorem p2 : parseE (bs { data := #[49, 44, 51, 45, 53, 44, 45, 50, 44, 55, 45] }) = 0 := by decide +kernel
theorem p3 : parseL (bs { data := #[53, 45, 51] }) = [] := by decide +kernel
theorem p4 : parseE (bs { data := #[53, 45, 51] }) = 5 := by decide +kernel
theorem t1 : (⟨(textL [(1, 1), (3, 5), (7, 0)]).toArray⟩ : ByteArray) = { data := #[49, 44, 51, 45, 53, 44, 55, 45] } := by decide +kernel
theorem t2 : textE [(1, 1), (3, 5), (7, 0)] = 0 := by decide +kernel
theorem t3 : (⟨(textL []).toArray⟩ : ByteArray) = { data := #[] } := by decide +kernel
theorem t4 : textE [] = 1 := by decide +kernel
theorem h1 : has al 9 = true := by decide +kernel
theorem h2 : has [(1, 1)] 2 = false := by decide +kernel

set_option maxRecDepth 100000 in
set_option maxHeartbeats 1000000 in
theorem alive_any (w : World) (ht : Tab w) : Calls Tryd.prog 15 #[] w fun e w' => e = .returned (.bool true) ∧ Below w.heap.size w w' := by
  have C1 := hide (parse_is w (by decide) p1 p2)
  have HT := hide ht
  clear ht
  go_enter Tryd.func15, Tryd.ntmps15
  go_wp2_with fail
  refine (unhide C1).mono ?_
  rintro e w1 ⟨a1, c1, rfl, hR1, hB1⟩
  have HR1 : Hid (Rg w1 a1 4 c1 al) := hR1
  obtain ⟨b, off, rfl⟩ : ∃ b off, a1 = some ⟨b, off, none⟩ := by
    rcases hR1.cells with h | ⟨b, off, e, _⟩
    · simp at h
    · exact ⟨b, off, e⟩
  have hcap : 4 ≤ c1 := hR1.le
  have HT1 := hide ((unhide HT).below hB1)
  clear hR1 C1 HT
  go_wp2_with fail
  refine (text_is (c' := 3) (rs := [(1, 1), (3, 5), (7, 0)]) (by exact rg_lit w1 [(1, 1), (3, 5), (7, 0)] _) (by decide) ((unhide HT1).below ((Below.refl _ _).alloc (Nat.le_refl _) _)) t1 t2).mono ?_
  rintro e w2 ⟨rfl, hb2⟩
  have hb2' : Below w1.heap.size w1 w2 := ((Below.refl _ _).alloc (Nat.le_refl _) _).trans (hb2.mono (by simp))
  have hB2 : Below w.heap.size w w2 := hB1.trans (hb2'.mono hB1.size)
  have HR2 := hide ((unhide HR1).below hb2')
  have HT2 := hide ((unhide HT1).below hb2')
  clear hb2 hb2' hB1 HR1 HT1
  have C3 := hide (parse_is w2 (by decide) p3 p4)
  go_wp2_with fail
  refine (unhide C3).mono ?_
  rintro e w3 ⟨a3, c3, rfl, hR3, hb3⟩
  have hB3 : Below w.heap.size w w3 := hB2.trans (hb3.mono hB2.size)
  have HR3 := hide ((unhide HR2).below hb3)
  have HT3 := hide ((unhide HT2).below hb3)
  clear C3 hR3 hb3 hB2 HR2 HT2
  go_wp2_with fail
  refine (text_is (c' := 0) (rs := []) (rg_nil w3) (by decide) (unhide HT3) t3 t4).mono ?_
  rintro e w4 ⟨rfl, hb4⟩
  have hB4 : Below w.heap.size w w4 := hB3.trans (hb4.mono hB3.size)
  have HR4 := hide ((unhide HR3).below hb4)
  clear hb4 hB3 HR3 HT3
  go_wp2_with fail
  refine (same_any (some ⟨b, off, none⟩) (some ⟨w4.heap.size, 0, none⟩) 4 c1 4 c1 4 al _ (by decide) ((unhide HR4).below ((Below.refl _ _).alloc (Nat.le_refl _) _)) (by exact rg_lit w4 al _)).mono ?_
  rintro e w5 ⟨rfl, hb5⟩
  have hb5' : Below w4.heap.size w4 w5 := ((Below.refl _ _).alloc (Nat.le_refl _) _).trans (hb5.mono (by simp))
  have hB5 : Below w.heap.size w w5 := hB4.trans (hb5'.mono hB4.size)
  have HR5 := hide ((unhide HR4).below hb5')
  clear hb5 hb5' hB4 HR4
  have C6 := hide (has_any (some ⟨b, off, none⟩) 4 c1 c1 al 9 w5 (unhide HR5) (by decide))
  rw [h1] at C6
  go_wp2_with fail
  refine (unhide C6).mono ?_
  rintro e w6 ⟨rfl, hb6⟩
  have hB6 : Below w.heap.size w w6 := hB5.trans (hb6.mono hB5.size)
  have HR6 := hide ((unhide HR5).below hb6)
  clear hb6 hB5 HR5 C6
  have C7 := hide (fun c => has_any (some ⟨b, off, none⟩) 1 c c1 [(1, 1)] 2 w6 ((unhide HR6).head 1 (by decide) (by decide)) (by decide))
  rw [h2] at C7
  go_wp2_with fail
  refine (unhide C7 _).mono ?_
  rintro e w7 ⟨rfl, hb7⟩
  have hB7 : Below w.heap.size w w7 := hB6.trans (hb7.mono hB6.size)
  clear hb7 hB6 HR6 C7
  go_wp2_with fail
  go_ret
  exact ⟨rfl, hB7⟩
end Go.Proofs.YtijoemamnkhhnaaDoor.Ls
