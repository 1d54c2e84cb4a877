/- The chapter's examples. -/
import Derived.Test.YtcpellddjlmegaaGreatDoorTrNew
namespace Go.Proofs.YtcpellddjlmegaaGreatDoor.Tr
open Go.RowKit Go.Proofs.YtcpellddjlmegaaGreatDoor.Cu

theorem chk_small : checkP 0 small = true := by decide +kernel
theorem chk_new : checkP 0 newT = true := by decide +kernel
theorem chk_nil : checkP 0 [] = false := by decide +kernel
theorem stat2 : statV 0 small 2 = .tuple #[.agg #[.int .i64 2, .int .u8 2, .int .i64 493, .int .i64 0, .int .i64 0, .int .i64 2, .int .i64 1, .int .i64 0], .int .i64 0] := by kernel_rfl
theorem stat9 : statV 0 small 9 = .tuple #[.agg zStat, .int .i64 1] := by kernel_rfl
theorem path2 : pathV 0 small 2 = .tuple #[.string ⟨#[47, 97]⟩, .int .i64 0] := by kernel_rfl
theorem path3 : pathV 0 small 3 = .tuple #[.string ⟨#[]⟩, .int .i64 1] := by kernel_rfl
theorem sizes_s : sizesV 0 small = .tuple #[.int .i64 3, .int .i64 5] := by kernel_rfl
theorem find1 : findV 0 small 1 ⟨#[97]⟩ = 2 := by decide +kernel
theorem find2 : findV 0 small 2 ⟨#[98]⟩ = 3 := by decide +kernel
theorem find3 : findV 0 small 3 ⟨#[98]⟩ = 0 := by decide +kernel
theorem depth2 : depthV 0 small 2 = 1 := by decide +kernel
theorem sm_of {ns : List Nd} (h1 : ns.length ≤ 10) (h2 : ∀ i, i < 10 → (nd ns i).list.length ≤ 10) (h3 : bytesP ns ns.length ≤ 10) (h4 : namesP ns ns.length ≤ 10) : Sm ns :=
  ⟨by omega, fun i => by
    by_cases hi : i < 10
    · have := h2 i hi; omega
    · rw [nd_out (by omega)]; simp, by omega, by omega⟩
theorem sm_small : Sm small := sm_of (by decide +kernel) (by decide +kernel) (by decide +kernel) (by decide +kernel)
theorem sm_new : Sm newT := sm_of (by decide +kernel) (by decide +kernel) (by decide +kernel) (by decide +kernel)
theorem sm_nil : Sm [] := sm_of (by decide +kernel) (by decide +kernel) (by decide +kernel) (by decide +kernel)
theorem ng_new {w : World} {g : Nat} (h : w.heap[g]? = some (.cells newA 51)) : Ng w (some ⟨g, 0, none⟩) 2 2 newT := by
  have hown : w.ownsRow 0 51 10 (.slice (some ⟨g, 0, none⟩) 2 2) 2 (cellsOf [(nz, noS, noS), (⟨2, 493, 0, 0, 2, 0, [], ⟨#[]⟩, [], 1⟩, noS, noS)]) :=
    ⟨rfl, .inr ⟨g, 2, newA, rfl, Nat.zero_le _, h, Nat.le_refl _, by unfold maxLen; omega, rfl, rfl⟩⟩
  obtain ⟨a, cap, hv, hng⟩ := ng_of_own hown (by
    intro x hx
    simp only [List.mem_cons, List.not_mem_nil, or_false] at hx
    rcases hx with rfl | rfl
    · exact ⟨none, 0, none, 0, rfl, rfl, by_nil _, eg_nil _⟩
    · exact ⟨none, 0, none, 0, rfl, rfl, by_nil _, eg_nil _⟩)
  injection hv with h1 _ h3
  subst h1 h3
  exact hng
/-- the world in which the examples are asked -/
structure Lv (w W : World) (Tb : Nat) (a : Option Addr) (cap : Nat) : Prop where
  below : Below w.heap.size w W
  ng : Ng W a 4 cap small
  c0 : W.cell? ⟨Tb, 0, none⟩ = some (.slice a 4 cap)
  c1 : W.cell? ⟨Tb, 1, none⟩ = some (.int .i64 0)
  lt : Tb < W.heap.size
theorem Lv.step {w W W' : World} {Tb : Nat} {a : Option Addr} {cap : Nat} (h : Lv w W Tb a cap) (hb : Below W.heap.size W W') : Lv w W' Tb a cap :=
  ⟨h.below.trans (hb.mono h.below.size), h.ng.below hb, (hb.cell h.lt).trans h.c0, (hb.cell h.lt).trans h.c1, Nat.lt_of_lt_of_le h.lt hb.size⟩
theorem Lv.alloc {w W : World} {Tb : Nat} {a : Option Addr} {cap : Nat} (h : Lv w W Tb a cap) (o : Obj) : Lv w (W.alloc o) Tb a cap := h.step ((Below.refl _ _).alloc (Nat.le_refl _) _)
abbrev sV : Array Value := #[.int .i64 2, .int .u8 2, .int .i64 493, .int .i64 0, .int .i64 0, .int .i64 2, .int .i64 1, .int .i64 0]
set_option maxRecDepth 100000 in
set_option maxHeartbeats 4000000 in
theorem lives_any (w : World) : Calls Tryz.prog 10 #[] w fun e w' => e = .returned (.bool true) ∧ Below w.heap.size w w' := by
  go_enter Tryz.func10, Tryz.ntmps10
  go_wp2_with fail
  refine (small_any _).mono ?_
  rintro e w1 ⟨⟨a, cap, rfl, hng⟩, b1⟩
  have S2 : Hid (∀ W, Ng W a 4 cap small → Calls Tryz.prog 55 #[.agg #[.slice a 4 cap, .int .i64 0], .int .i64 2] W fun e w' => e = .returned (.tuple #[.agg sV, .int .i64 0]) ∧ Below W.heap.size W w') := fun W h => by have q := stat_any a 4 cap small 0 2 W h sm_small; rw [stat2] at q; exact q
  have S9 : Hid (∀ W, Ng W a 4 cap small → Calls Tryz.prog 55 #[.agg #[.slice a 4 cap, .int .i64 0], .int .i64 9] W fun e w' => e = .returned (.tuple #[.agg zStat, .int .i64 1]) ∧ Below W.heap.size W w') := fun W h => by have q := stat_any a 4 cap small 0 9 W h sm_small; rw [stat9] at q; exact q
  have P2 : Hid (∀ W, Ng W a 4 cap small → Calls Tryz.prog 56 #[.agg #[.slice a 4 cap, .int .i64 0], .int .i64 2] W fun e w' => e = .returned (.tuple #[.string ⟨#[47, 97]⟩, .int .i64 0]) ∧ Below W.heap.size W w') := fun W h => by have q := path_any a 4 cap small 0 2 W h sm_small; rw [path2] at q; exact q
  have P3 : Hid (∀ W, Ng W a 4 cap small → Calls Tryz.prog 56 #[.agg #[.slice a 4 cap, .int .i64 0], .int .i64 3] W fun e w' => e = .returned (.tuple #[.string ⟨#[]⟩, .int .i64 1]) ∧ Below W.heap.size W w') := fun W h => by have q := path_any a 4 cap small 0 3 W h sm_small; rw [path3] at q; exact q
  have SZ : Hid (∀ W, Ng W a 4 cap small → Calls Tryz.prog 5 #[.agg #[.slice a 4 cap, .int .i64 0]] W fun e w' => e = .returned (.tuple #[.int .i64 3, .int .i64 5]) ∧ Below W.heap.size W w') := fun W h => by have q := sizes_any a 4 cap small 0 W h sm_small; rw [sizes_s] at q; exact q
  have CK : Hid (∀ W, Ng W a 4 cap small → Calls Tryz.prog 6 #[.agg #[.slice a 4 cap, .int .i64 0]] W fun e w' => e = .returned (.bool true) ∧ Below W.heap.size W w') := fun W h => by have q := checkAny 0 h sm_small; rw [chk_small] at q; exact q
  have F1 : Hid (∀ W, Ng W a 4 cap small → Calls Tryz.prog 57 #[.agg #[.slice a 4 cap, .int .i64 0], .int .i64 1, .string ⟨#[97]⟩] W fun e w' => e = .returned (.int .i64 2) ∧ Below W.heap.size W w') := fun W h => by have q := find_any a 4 cap small 0 1 ⟨#[97]⟩ W h sm_small; rw [find1] at q; exact q
  have F2 : Hid (∀ W, Ng W a 4 cap small → Calls Tryz.prog 57 #[.agg #[.slice a 4 cap, .int .i64 0], .int .i64 2, .string ⟨#[98]⟩] W fun e w' => e = .returned (.int .i64 3) ∧ Below W.heap.size W w') := fun W h => by have q := find_any a 4 cap small 0 2 ⟨#[98]⟩ W h sm_small; rw [find2] at q; exact q
  have F3 : Hid (∀ W, Ng W a 4 cap small → Calls Tryz.prog 57 #[.agg #[.slice a 4 cap, .int .i64 0], .int .i64 3, .string ⟨#[98]⟩] W fun e w' => e = .returned (.int .i64 0) ∧ Below W.heap.size W w') := fun W h => by have q := find_any a 4 cap small 0 3 ⟨#[98]⟩ W h sm_small; rw [find3] at q; exact q
  have D2 : Hid (∀ W, Ng W a 4 cap small → Calls Tryz.prog 58 #[.agg #[.slice a 4 cap, .int .i64 0], .int .i64 2] W fun e w' => e = .returned (.int .i64 1) ∧ Below W.heap.size W w') := fun W h => by have q := depth_any a 4 cap small 0 2 W h sm_small; rw [depth2] at q; exact q
  have CN : Hid (∀ W g, W.heap[g]? = some (.cells newA 51) → Calls Tryz.prog 6 #[.agg #[.slice (some ⟨g, 0, none⟩) 2 2, .int .i64 0]] W fun e w' => e = .returned (.bool true) ∧ Below W.heap.size W w') := fun W g h => by have q := checkAny 0 (ng_new h) sm_new; rw [chk_new] at q; exact q
  have C0 : Hid (∀ W, Calls Tryz.prog 6 #[.agg #[.slice none 0 0, .int .i64 0]] W fun e w' => e = .returned (.bool false) ∧ Below W.heap.size W w') := fun W => by
    have q := checkAny (a := none) (n := 0) (cap := 0) (ns := []) (w := W) 0 ⟨rfl, Nat.le_refl _, fun _ => ⟨rfl, rfl⟩, .inl rfl⟩ sm_nil
    rw [chk_nil] at q; exact q
  have hL2 : Lv w (w1.alloc (.cells #[.slice a 4 cap, .int .i64 0] 38)) w1.heap.size a cap := by
    have q : Below w1.heap.size w1 (w1.alloc (.cells #[.slice a 4 cap, .int .i64 0] 38)) := (Below.refl _ _).alloc (Nat.le_refl _) _
    exact ⟨b1.trans (q.mono b1.size), hng.below q, by simp, by simp, by simp⟩
  have L2 := hide hL2
  clear hL2 b1 hng
  go_wp2_with fail
  obtain ⟨Tb, hTb⟩ : ∃ Tb, Tb = w1.heap.size := ⟨_, rfl⟩
  rw [← hTb] at L2
  refine (unhide S2 _ (unhide L2).ng).mono ?_
  rintro e w3 ⟨rfl, b3⟩
  rw [← hTb]
  have L3 := hide ((unhide L2).step b3)
  have L3a := hide ((unhide L3).alloc (.cells sV 58))
  have c0 := (unhide L3).c0
  have c1 := (unhide L3).c1
  have hlt := (unhide L3).lt
  clear b3 L2 hTb S2
  go_wp2_with fail
  refine (unhide S9 _ (unhide L3a).ng).mono ?_
  rintro e w4 ⟨rfl, b4⟩
  obtain ⟨Sb, hSb⟩ : ∃ Sb, Sb = w3.heap.size := ⟨_, rfl⟩
  rw [← hSb]
  have g4 : w4.heap[Sb]? = some (.cells sV 58) := by rw [hSb]; exact (box_keep b4).1
  have L4 := hide ((unhide L3a).step b4)
  have L4a := hide ((unhide L4).alloc (.cells zStat 58))
  clear b4 c0 c1 hlt L3 L3a hSb S9
  have c0 := (unhide L4).c0
  have c1 := (unhide L4).c1
  have hlt := (unhide L4).lt
  have G4a : Hid ((w4.alloc (.cells zStat 58)).heap[Sb]? = some (.cells sV 58)) := (Below.heap_alloc w4 _ Sb (Array.getElem?_eq_some_iff.1 g4).1).trans g4
  clear g4
  go_wp2_with fail
  refine (unhide P2 _ (unhide L4a).ng).mono ?_
  rintro e w5 ⟨rfl, b5⟩
  have L5 := hide ((unhide L4a).step b5)
  have G5 := hide ((b5.block _ (Array.getElem?_eq_some_iff.1 (unhide G4a)).1).trans (unhide G4a))
  clear b5 c0 c1 hlt L4a G4a
  have c0 := (unhide L5).c0
  have c1 := (unhide L5).c1
  have hlt := (unhide L5).lt
  clear L4 P2
  go_wp2_with fail
  refine (unhide P3 _ (unhide L5).ng).mono ?_
  rintro e w6 ⟨rfl, b6⟩
  have L6 := hide ((unhide L5).step b6)
  have G6 := hide ((b6.block _ (Array.getElem?_eq_some_iff.1 (unhide G5)).1).trans (unhide G5))
  clear b6 c0 c1 hlt L5 G5
  have c0 := (unhide L6).c0
  have c1 := (unhide L6).c1
  have hlt := (unhide L6).lt
  clear P3
  go_wp2_with fail
  refine (unhide SZ _ (unhide L6).ng).mono ?_
  rintro e w7 ⟨rfl, b7⟩
  have L7 := hide ((unhide L6).step b7)
  have G7 := hide ((b7.block _ (Array.getElem?_eq_some_iff.1 (unhide G6)).1).trans (unhide G6))
  clear b7 c0 c1 hlt L6 G6
  have c0 := (unhide L7).c0
  have c1 := (unhide L7).c1
  have hlt := (unhide L7).lt
  clear SZ
  go_wp2_with fail
  refine (unhide CK _ (unhide L7).ng).mono ?_
  rintro e w8 ⟨rfl, b8⟩
  have L8 := hide ((unhide L7).step b8)
  have G8 := hide ((b8.block _ (Array.getElem?_eq_some_iff.1 (unhide G7)).1).trans (unhide G7))
  clear b8 c0 c1 hlt L7 G7
  have c0 := (unhide L8).c0
  have c1 := (unhide L8).c1
  have hlt := (unhide L8).lt
  clear CK
  go_wp2_with fail
  refine (new_any _).mono ?_
  rintro e w9 ⟨rfl, hn9, b9⟩
  have L9 := hide ((unhide L8).step b9)
  have G9 := hide ((b9.block _ (Array.getElem?_eq_some_iff.1 (unhide G8)).1).trans (unhide G8))
  have CN9 := hide (unhide CN _ _ hn9)
  clear b9 c0 c1 hlt L8 G8 hn9 CN
  have c0 := (unhide L9).c0
  have c1 := (unhide L9).c1
  have hlt := (unhide L9).lt
  go_wp2_with fail
  refine (unhide CN9).mono ?_
  rintro e w10 ⟨rfl, b10⟩
  have L10 := hide ((unhide L9).step b10)
  have G10 := hide ((b10.block _ (Array.getElem?_eq_some_iff.1 (unhide G9)).1).trans (unhide G9))
  clear b10 c0 c1 hlt L9 G9
  have c0 := (unhide L10).c0
  have c1 := (unhide L10).c1
  have hlt := (unhide L10).lt
  clear CN9
  go_wp2_with fail
  refine (unhide C0 _).mono ?_
  rintro e w11 ⟨rfl, b11⟩
  have L11 := hide ((unhide L10).step b11)
  have G11 := hide ((b11.block _ (Array.getElem?_eq_some_iff.1 (unhide G10)).1).trans (unhide G10))
  clear b11 c0 c1 hlt L10 G10
  have c0 := (unhide L11).c0
  have c1 := (unhide L11).c1
  have hlt := (unhide L11).lt
  clear C0
  go_wp2_with fail
  refine (unhide F1 _ (unhide L11).ng).mono ?_
  rintro e w12 ⟨rfl, b12⟩
  have L12 := hide ((unhide L11).step b12)
  have G12 := hide ((b12.block _ (Array.getElem?_eq_some_iff.1 (unhide G11)).1).trans (unhide G11))
  clear b12 c0 c1 hlt L11 G11
  have c0 := (unhide L12).c0
  have c1 := (unhide L12).c1
  have hlt := (unhide L12).lt
  clear F1
  go_wp2_with fail
  refine (unhide F2 _ (unhide L12).ng).mono ?_
  rintro e w13 ⟨rfl, b13⟩
  have L13 := hide ((unhide L12).step b13)
  have G13 := hide ((b13.block _ (Array.getElem?_eq_some_iff.1 (unhide G12)).1).trans (unhide G12))
  clear b13 c0 c1 hlt L12 G12
  have c0 := (unhide L13).c0
  have c1 := (unhide L13).c1
  have hlt := (unhide L13).lt
  clear F2
  go_wp2_with fail
  refine (unhide F3 _ (unhide L13).ng).mono ?_
  rintro e w14 ⟨rfl, b14⟩
  have L14 := hide ((unhide L13).step b14)
  have G14 := hide ((b14.block _ (Array.getElem?_eq_some_iff.1 (unhide G13)).1).trans (unhide G13))
  clear b14 c0 c1 hlt L13 G13
  have c0 := (unhide L14).c0
  have c1 := (unhide L14).c1
  have hlt := (unhide L14).lt
  clear F3
  have d1 : w14.cell? ⟨Sb, 1, none⟩ = some (.int .u8 2) := by rw [cell_of_row _ _ _ _ _ _ (unhide G14)]; rfl
  have d6 : w14.cell? ⟨Sb, 6, none⟩ = some (.int .i64 1) := by rw [cell_of_row _ _ _ _ _ _ (unhide G14)]; rfl
  go_wp2_with fail
  refine (unhide D2 _ (unhide L14).ng).mono ?_
  rintro e w15 ⟨rfl, b15⟩
  have L15 := hide ((unhide L14).step b15).below
  clear b15 c0 c1 hlt L14 G14 D2 d1 d6
  go_wp2_with fail
  go_ret
  exact ⟨rfl, unhide L15⟩
end Go.Proofs.YtcpellddjlmegaaGreatDoor.Tr
