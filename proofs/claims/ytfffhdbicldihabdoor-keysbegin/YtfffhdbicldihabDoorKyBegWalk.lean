/- KeysBegin returns true, whatever the order and the line. -/
import Derived.Test.YtfffhdbicldihabDoorKyAlive
import Derived.Test.YtfffhdbicldihabDoorKyHeld
import Derived.Test.YtfffhdbicldihabDoorKyBegin
import Derived.Test.YtfffhdbicldihabDoorLnFields
namespace Go.Proofs.YtfffhdbicldihabDoor.Ky
open Go.RowKit Go.Shelf

attribute [local go_sem] Oper.semAt_some

theorem ext_pre (K A : ByteArray) (t : Bs) (h : A.data.toList = K.data.toList ++ t) : A.extract 0 K.size = K ∧ K.size ≤ A.size := by
  have h2 : K.size ≤ A.size := by
    have := congrArg List.length h
    rw [List.length_append] at this
    have e1 : A.data.toList.length = A.size := rfl
    have e2 : K.data.toList.length = K.size := rfl
    omega
  refine ⟨?_, h2⟩
  rw [Ln.bt_extract, List.drop_zero, h, Nat.sub_zero, List.take_left' (show K.data.toList.length = K.size from rfl)]; rfl
theorem ext_suf (A s : ByteArray) (t : Bs) (h : s.data.toList = t ++ A.data.toList) : ∃ d : Nat, (s.size : Int) - (A.size : Int) = (d : Int) ∧ s.extract d s.size = A ∧ d ≤ s.size ∧ A.size ≤ s.size := by
  have e : s.size = t.length + A.size := by
    have := congrArg List.length h
    rw [List.length_append] at this
    exact this
  refine ⟨t.length, by omega, ?_, by omega, by omega⟩
  rw [Ln.bt_extract, h, List.drop_left' rfl, List.take_of_length_le (by have e2 : A.data.toList.length = A.size := rfl; omega)]; rfl

set_option maxRecDepth 100000 in
set_option maxHeartbeats 1000000 in
theorem keysBegin_any (o : Ord) (s : ByteArray) (w : World) :
    Calls Tryd.prog 5 #[ov o, .string s] w fun e w' => e = .returned (.bool true) ∧ Below w.heap.size w w' := by
  have AL : Hid (∀ W, Calls Tryd.prog 7 #[] W fun e w' => e = .returned (.bool true) ∧ Below W.heap.size W w') := alive_any
  have H0 := hide (Hd.new w o)
  by_cases hbig : (5000 : Int) < s.size
  · unfold ov
    go_enter Tryd.func5, Tryd.ntmps5
    go_wp2_with fail
    refine (unhide AL _).mono ?_
    rintro e w1 ⟨rfl, b1⟩
    have H1 := hide ((unhide H0).step b1)
    clear b1 H0
    go_wp2_with fail
    refine (unhide AL _).mono ?_
    rintro e w2 ⟨rfl, b2⟩
    have H2 := hide ((unhide H1).step b2)
    clear b2 H1
    go_wp2_with fail
    go_ret
    exact ⟨rfl, (unhide H2).2⟩
  · have zs : (s.size : Int) ≤ 5000 := by omega
    have C1 := hide (fun W => key_any o s W (by omega))
    have C2 := hide (fun W => key_any { o with to := 0 } s W (by omega))
    have C3 := hide (fun W => check_any { o with to := 0 } W)
    have hb1 := begins o s.data.toList
    have hb0 := begins_none o s.data.toList
    unfold ov at C1 C2 C3 ⊢
    simp only at C2 C3
    obtain ⟨K, hK⟩ : ∃ K, K = Ln.bt (key o s.data.toList) := ⟨_, rfl⟩
    obtain ⟨A, hA⟩ : ∃ A, A = Ln.bt (key { o with to := 0 } s.data.toList) := ⟨_, rfl⟩
    have eK : key o s.data.toList = K.data.toList := by rw [hK]; rfl
    have eA : key { o with to := 0 } s.data.toList = A.data.toList := by rw [hA]; rfl
    rw [← hK] at C1
    rw [← hA] at C2
    rw [eK, eA] at hb1 hb0
    obtain ⟨ok, hok⟩ : ∃ ok, ok = okO { o with to := 0 } := ⟨_, rfl⟩
    rw [← hok] at hb1 hb0 C3
    have HB1 := hide hb1
    have HB0 := hide hb0
    clear hK hA eK eA hok hb1 hb0 hbig
    go_enter Tryd.func5, Tryd.ntmps5
    go_wp2_with fail
    refine (unhide AL _).mono ?_
    rintro e w1 ⟨rfl, b1⟩
    have H1 := hide ((unhide H0).step b1)
    clear b1 H0 AL
    obtain ⟨d0, d1, d2, d3, d4, d5, d6⟩ := (unhide H1).1.cells
    go_wp2_with fail
    refine (unhide C1 _).mono ?_
    rintro e w2 ⟨rfl, b2⟩
    have H2 := hide ((unhide H1).step b2)
    clear b2 H1 C1 d0 d1 d2 d3 d4 d5 d6
    obtain ⟨d0, d1, d2, d3, d4, d5, d6⟩ := (unhide H2).1.cells
    have fz := (unhide H2).1.frozen 5
    have H3 := hide ((unhide H2).setTo 0)
    clear H2
    go_wp2_with fail
    refine (unhide C2 _).mono ?_
    rintro e w3 ⟨rfl, b3⟩
    have H4 := hide ((unhide H3).step b3)
    clear b3 H3 C2 d0 d1 d2 d3 d4 d5 d6 fz
    obtain ⟨d0, d1, d2, d3, d4, d5, d6⟩ := (unhide H4).1.cells
    simp only at d0 d1 d2 d3 d4 d5 d6
    go_wp2_with fail
    refine (unhide C3 _).mono ?_
    rintro e w4 ⟨rfl, b4⟩
    have H5 := hide ((unhide H4).step b4)
    clear b4 H4 C3 d0 d1 d2 d3 d4 d5 d6
    obtain ⟨d0, d1, d2, d3, d4, d5, d6⟩ := (unhide H5).1.cells
    simp only at d0 d1 d2 d3 d4 d5 d6
    have hb1 := unhide HB1
    have hb0 := unhide HB0
    clear HB1 HB0
    cases ok
    · obtain ⟨h1, h2⟩ := hb0 rfl
      obtain rfl : K = { data := #[] } := WideShapes.bytes_inj h1
      obtain rfl : A = { data := #[] } := WideShapes.bytes_inj h2
      clear h1 h2 hb1 hb0
      go_wp2_with fail
      go_ret
      exact ⟨by first | rfl | simp, (unhide H5).2⟩
    · obtain ⟨⟨t1, h1⟩, ⟨t2, h2⟩, h3⟩ := hb1 rfl
      obtain ⟨x1, x2⟩ := ext_pre K A t1 h1
      obtain ⟨d, y1, y2, y3, y4⟩ := ext_suf A s t2 h2
      have x2' : (K.size : Int) ≤ (A.size : Int) := by omega
      have y4' : (A.size : Int) ≤ (s.size : Int) := by omega
      clear hb1 hb0 h1 h2
      by_cases hfr : (1 : Int) < o.fr
      · clear h3
        go_wp2_with fail
        go_ret
        exact ⟨by first | rfl | simp, (unhide H5).2⟩
      · obtain rfl : s = A := WideShapes.bytes_inj (h3 (by omega)).symm
        clear h3
        go_wp2_with fail
        go_ret
        exact ⟨by first | rfl | simp, (unhide H5).2⟩
end Go.Proofs.YtfffhdbicldihabDoor.Ky
