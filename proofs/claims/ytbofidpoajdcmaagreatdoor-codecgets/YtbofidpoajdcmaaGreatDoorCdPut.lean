/- What gather and Put answer. -/
import Derived.Test.YtbofidpoajdcmaaGreatDoorCdTell3
namespace Go.Proofs.YtbofidpoajdcmaaGreatDoor.Cd
open Go.RowKit Cu Tr

theorem row_by {w : World} {B : Nat} {v : Value} {l : Bs} (h : Row B v l w) : ∃ a c, v = .slice a l.length c ∧ By w a l.length c l ∧ (∀ ad, a = some ad → B ≤ ad.block) := by
  rcases h.2 with ⟨hv, h0⟩ | ⟨g, cap, cur, hv, hb, hg, hc, hm, hs, ht⟩
  · have : l = [] := List.eq_nil_of_length_eq_zero h0
    subst this
    exact ⟨none, 0, hv, ⟨rfl, Nat.le_refl _, fun _ => ⟨rfl, rfl⟩, .inl rfl⟩, fun ad e => by cases e⟩
  · refine ⟨some ⟨g, 0, none⟩, cap, hv, ⟨rfl, hc, (by intro h; cases h), .inr ⟨g, 0, rfl, (Array.getElem?_eq_some_iff.1 hg).1, ?_⟩⟩, ?_⟩
    · intro i hi
      rw [Nat.zero_add, cell_of_row _ _ _ _ _ _ hg]
      have h1 : cur.toList.take (l.length * 1) = Lib.byteCells l := ht
      have h2 : (cur.toList.take (l.length * 1))[i]? = (Lib.byteCells l)[i]? := by rw [h1]
      rw [List.getElem?_take_of_lt (by omega), Array.getElem?_toList] at h2
      rw [h2]
      simp [Lib.byteCells, List.getElem?_eq_getElem hi, List.getD]
    · intro ad e
      injection e with e
      subst e
      exact hb
set_option maxHeartbeats 400000 in
set_option maxRecDepth 100000 in
theorem gather_any (f : Nat) (cp : Array Value) (P : Bs) (w : World) (hf : ∀ args w', (callFunc f args).run Tryz.prog w' = .ok (.enter f args) w')
    (hc : ∀ w1 : World, Below w.heap.size w w1 → Tl w1 w.heap.size none [] → w1.heap.size = w.heap.size + 1 → Calls Tryz.prog f (#[tv w.heap.size] ++ cp) w1 fun e w' => e = .returned (.tuple #[]) ∧ ∃ o', Tl w' w.heap.size o' P ∧ Tk w1 w' w.heap.size none o') :
    Calls Tryz.prog 34 #[.func (.func f) #[] cp] w fun e w' => ∃ v, e = .returned v ∧ Row w.heap.size v P w' ∧ Below w.heap.size w w' := by
  have hmf : ∀ (fn : Fn) (first cap : Array Value) (w : World), (Instr.makeFunc fn first cap).run Tryz.prog w = .ok (.func fn first cap) w := fun _ _ _ _ => rfl
  have hT0 : Tl (w.alloc (.cells #[.slice none 0 0] 23)) w.heap.size none [] :=
    ⟨⟨.slice none 0 0, by simp, rfl, row_nil _ _⟩, by simp, by simp⟩
  have h1 := hide (hc _ (below_new w _) hT0 (by simp))
  have hb0 : Hid (Below w.heap.size w (w.alloc (.cells #[.slice none 0 0] 23))) := below_new w _
  have hT1 := hide hT0
  clear hc hT0
  go_enter Tryz.func34, Tryz.ntmps34
  go_wp2_with fail
  refine (unhide h1).mono ?_
  rintro e w2 ⟨rfl, o2, h3, h4⟩
  have hb2 : Hid (Below w.heap.size w w2) := (unhide hb0).trans (h4.below (unhide hT1))
  obtain ⟨v, hv, _, hR⟩ := h3.ex
  have HR := hide hR
  obtain ⟨va, vc, rfl⟩ := row_slice hR
  clear h1 h3 h4 hR hT1 hb0
  go_wp2_with fail
  go_ret
  exact ⟨_, rfl, row_base (unhide HR) (by omega), unhide hb2⟩
theorem isText_s (x : ByteArray) (w : World) (hx : x.size ≤ 4611686018427387904) :
    Calls Tryz.prog 32 #[.string x] w fun e w' => e = .returned (.bool (decide (x.size ≤ 65536))) ∧ w' = w := by
  go_enter Tryz.func32, Tryz.ntmps32
  go_wp2_with fail
  go_ret
  refine ⟨?_, rfl⟩
  congr 2
  by_cases h : x.size ≤ 65536 <;> simp [h] <;> omega
theorem isText_b (a : Option Addr) (n cap : Nat) (w : World) :
    Calls Tryz.prog 33 #[.slice a n cap] w fun e w' => e = .returned (.bool (decide (n ≤ 65536))) ∧ w' = w := by
  go_enter Tryz.func33, Tryz.ntmps33
  go_wp2_with fail
  go_ret
  refine ⟨?_, rfl⟩
  congr 2
  by_cases h : n ≤ 65536 <;> simp [h] <;> omega
/-- what Put answers -/
def PutR (c : Ca) (w : World) (e : Ending) (w' : World) : Prop := (∃ v, e = .returned (.tuple #[v, .int .i64 (if mayPut c = true then 0 else 1)]) ∧ Row w.heap.size v (if mayPut c = true then putP c else []) w') ∧ Below w.heap.size w w'
set_option maxHeartbeats 1000000 in
set_option maxRecDepth 100000 in
theorem put_any (c : Ca) (a : Option Addr) (cap : Nat) (w : World) (hB : By w a c.data.length cap c.data) (h1 : c.path.size ≤ 4611686018427387904) (h2 : c.other.size ≤ 4611686018427387904) :
    Calls Tryz.prog 9 #[cav c a cap] w (PutR c w) := by
  have hmf : ∀ (fn : Fn) (first cap : Array Value) (w : World), (Instr.makeFunc fn first cap).run Tryz.prog w = .ok (.func fn first cap) w := fun _ _ _ _ => rfl
  obtain ⟨O, hOb⟩ : ∃ O : Obj, O = .cells (ca c (.slice a c.data.length cap)) 27 (0, 0) := ⟨_, rfl⟩
  have hC : Hid (Cb (w.alloc O) w.heap.size c (.slice a c.data.length cap)) := by rw [hOb]; exact heap_alloc_new w _
  have hb0 : Hid (Below w.heap.size w (w.alloc O)) := below_new w _
  have hB0 : Hid (By (w.alloc O) a c.data.length cap c.data) := hB.below (below_new w _)
  have hB1 := hide hB
  have D1 := hide (isText_s c.path (w.alloc O) h1)
  have D2 := hide (isText_s c.other (w.alloc O) h2)
  have D3 := hide (isText_b a c.data.length cap (w.alloc O))
  have hM : Hid (mayPut c = (decide (c.path.size ≤ 65536) && decide (c.other.size ≤ 65536) && decide (c.data.length ≤ 65536))) := rfl
  have k1 := (unhide hC).at 1 (.string c.path) rfl
  have k2 := (unhide hC).at 2 (.string c.other) rfl
  have k7 := (unhide hC).at 7 (.slice a c.data.length cap) rfl
  clear hB
  subst hOb
  go_enter Tryz.func9, Tryz.ntmps9
  by_cases hm1 : c.path.size ≤ 65536
  · rw [decide_eq_true hm1] at D1
    by_cases hm2 : c.other.size ≤ 65536
    · rw [decide_eq_true hm2] at D2
      by_cases hm3 : c.data.length ≤ 65536
      · have hm : Hid (mayPut c = true) := hide (by rw [unhide hM]; simp [hm1, hm2, hm3])
        have G := hide (gather_any 35 #[.pointer (some ⟨w.heap.size, 0, none⟩)] (putP c) (w.alloc (.cells (ca c (.slice a c.data.length cap)) 27 (0, 0))) (fun args w' => by simp [go_sem]) (fun w1 hb hT hs => by
          have hC1 : Cb w1 w.heap.size c (.slice a c.data.length cap) := (hb.block _ (by simp)).trans (unhide hC)
          exact puts_any c a cap w.heap.size _ none [] w1 hT hC1 ((unhide hB0).below hb) (fun h0 ad e => ⟨by have := By.in (unhide hB1) h0 ad e; simp; omega, by intro h; cases h⟩) (unhide hm) (by simp)))
        rw [decide_eq_true hm3] at D3
        go_wp2_with fail
        refine (unhide D1).mono ?_
        rintro e w1 ⟨rfl, rfl⟩
        go_wp2_with fail
        refine (unhide D2).mono ?_
        rintro e w1 ⟨rfl, rfl⟩
        go_wp2_with fail
        refine (unhide D3).mono ?_
        rintro e w1 ⟨rfl, rfl⟩
        go_wp2_with fail
        refine (unhide G).mono ?_
        rintro e w2 ⟨v, rfl, hR, hb⟩
        have HR := hide hR
        have HB2 := hide ((unhide hb0).trans (hb.mono (by simp)))
        clear hR hb G
        go_wp2_with fail
        go_ret2
        refine ⟨⟨v, ?_, ?_⟩, unhide HB2⟩
        · exact congrArg (fun x => Ending.returned (.tuple #[v, .int .i64 x])) (if_pos (unhide hm)).symm
        · rw [if_pos (unhide hm)]; exact row_base (unhide HR) (by simp)
      · have hm : Hid (mayPut c = false) := hide (by rw [unhide hM]; simp [hm3])
        rw [decide_eq_false hm3] at D3
        go_wp2_with fail
        refine (unhide D1).mono ?_
        rintro e w1 ⟨rfl, rfl⟩
        go_wp2_with fail
        refine (unhide D2).mono ?_
        rintro e w1 ⟨rfl, rfl⟩
        go_wp2_with fail
        refine (unhide D3).mono ?_
        rintro e w1 ⟨rfl, rfl⟩
        go_wp2_with fail
        go_ret2
        refine ⟨⟨.slice none 0 0, ?_, ?_⟩, unhide hb0⟩
        · exact congrArg (fun x => Ending.returned (.tuple #[.slice none 0 0, .int .i64 x])) (if_neg (by rw [unhide hm]; decide)).symm
        · rw [unhide hm, if_neg (by decide)]; exact row_nil _ _
    · have hm : Hid (mayPut c = false) := hide (by rw [unhide hM]; simp [hm2])
      rw [decide_eq_false hm2] at D2
      go_wp2_with fail
      refine (unhide D1).mono ?_
      rintro e w1 ⟨rfl, rfl⟩
      go_wp2_with fail
      refine (unhide D2).mono ?_
      rintro e w1 ⟨rfl, rfl⟩
      go_wp2_with fail
      go_ret2
      refine ⟨⟨.slice none 0 0, ?_, ?_⟩, unhide hb0⟩
      · exact congrArg (fun x => Ending.returned (.tuple #[.slice none 0 0, .int .i64 x])) (if_neg (by rw [unhide hm]; decide)).symm
      · rw [unhide hm, if_neg (by decide)]; exact row_nil _ _
  · have hm : Hid (mayPut c = false) := hide (by rw [unhide hM]; simp [hm1])
    rw [decide_eq_false hm1] at D1
    go_wp2_with fail
    refine (unhide D1).mono ?_
    rintro e w1 ⟨rfl, rfl⟩
    go_wp2_with fail
    go_ret2
    refine ⟨⟨.slice none 0 0, ?_, ?_⟩, unhide hb0⟩
    · exact congrArg (fun x => Ending.returned (.tuple #[.slice none 0 0, .int .i64 x])) (if_neg (by rw [unhide hm]; decide)).symm
    · rw [unhide hm, if_neg (by decide)]; exact row_nil _ _
end Go.Proofs.YtbofidpoajdcmaaGreatDoor.Cd
