/- SortsSame returns true, if Sort, Check and alive answer as they should. -/
import Derived.Test.YtjfjhpakkflceaaGreatDoorSoFacts
import Derived.Test.YtjfjhpakkflceaaGreatDoorSoFew
import Derived.Test.YtjfjhpakkflceaaGreatDoorSoCount
import Derived.Test.YtjfjhpakkflceaaGreatDoorSoSays
import Derived.Test.YtjfjhpakkflceaaGreatDoorKyHeld
import Derived.Deep.RegionHeld3
namespace Go.Proofs.YtjfjhpakkflceaaGreatDoor.So
open Go.RowKit Go.Shelf Ky
open Pa (Tx tot)

attribute [local go_sem] Oper.semAt_some

theorem tot_mem : ∀ {A : Ls} {s : ByteArray}, s ∈ A → s.size ≤ tot A
  | x :: l, s, h => by
    rcases List.mem_cons.1 h with rfl | h
    · simp [tot]
    · have := tot_mem h; simp [tot]; omega

set_option maxRecDepth 100000 in
set_option maxHeartbeats 1000000 in
theorem sortsSame_any (AL : AliveSays) (HS : SortSays) (HC : CheckSays) (o : Ky.Ord) (A : Ls) (a : Option Addr) (la ca : Nat) (w : World) (hT : Tx w a la ca A) (hl : la ≤ 4611686018427387904) (hca : ca ≤ 9223372036854775807) (hs : ∀ s ∈ A, s.size ≤ 4611686018427387904) :
    Calls Tryz.prog 5 #[ov o, .slice a la ca] w fun e w' => e = .returned (.bool true) ∧ Below w.heap.size w w' := by
  have AL1 := hide AL
  have CK := hide (fun W => check_any o W)
  unfold AliveSays at AL1
  unfold ov at CK ⊢
  have H0 : Hid (Hd w o (w.alloc (.cells #[.bool o.num, .bool o.fold, .bool o.bls, .bool o.rev, .int .i64 o.fr, .int .i64 o.«to», .int .u8 (o.sep.toNat : Int)] 23))) := Hd.new w o
  have HT := hide hT
  have FW : Hid (∀ W, Hd w o W → Calls Tryz.prog 21 #[.slice (some ⟨W.heap.size, 0, none⟩) 1 1] (W.alloc (.cells #[.slice a la ca] 24)) fun e w' => ∃ r : Bool, e = .returned (.bool r) ∧ (r = true → la ≤ 300 ∧ la + tot A ≤ 20000) ∧ Below (W.alloc (.cells #[.slice a la ca] 24)).heap.size (W.alloc (.cells #[.slice a la ca] 24)) w') := fun W h =>
    few_one A a la ca W.heap.size _ (by simp) ((hT.below h.2).below ((Below.refl _ W).alloc (Nat.le_refl _) _)) hl hs
  have hlen := hide hT.len
  clear hT
  go_enter Tryz.func5, Tryz.ntmps5
  go_wp2_with fail
  refine (unhide AL1 _).mono ?_
  rintro e w1 ⟨rfl, b1⟩
  have H1 := hide ((unhide H0).step b1)
  clear b1 H0
  go_wp2_with fail
  refine (unhide FW _ (unhide H1)).mono ?_
  rintro e w2 ⟨r, rfl, hr, b2⟩
  have H2 := hide (((unhide H1).step ((Below.refl _ w1).alloc (Nat.le_refl _) (.cells #[.slice a la ca] 24))).step b2)
  clear b2 H1 FW
  obtain ⟨d0, d1, d2, d3, d4, d5, d6⟩ := (unhide H2).1.cells
  cases r
  · clear hr
    go_wp2_with fail
    refine (unhide AL1 _).mono ?_
    rintro e w3 ⟨rfl, b3⟩
    have H3 := hide ((unhide H2).step b3)
    clear b3 H2
    go_wp2_with fail
    go_ret
    exact ⟨rfl, (unhide H3).2⟩
  · obtain ⟨hf1, hf2⟩ := hr rfl
    clear hr
    go_wp2_with fail
    refine (unhide CK _).mono ?_
    rintro e w3 ⟨rfl, b3⟩
    have H3 := hide ((unhide H2).step b3)
    clear b3 H2 d0 d1 d2 d3 d4 d5 d6
    cases hok : okO o
    · go_wp2_with fail
      refine (unhide AL1 _).mono ?_
      rintro e w4 ⟨rfl, b4⟩
      have H4 := hide ((unhide H3).step b4)
      clear b4 H3
      go_wp2_with fail
      go_ret
      exact ⟨rfl, (unhide H4).2⟩
    · have hAs : ∀ s ∈ A, s.size ≤ 1073741000 := fun s h => by have := tot_mem h; omega
      have hE : sortE o la = 0 := by unfold sortE; rw [hok, if_neg (by simp), if_neg (by omega)]
      have hE1 : sortE o A.length = 0 := by rw [unhide hlen]; exact hE
      obtain ⟨M, hM⟩ : ∃ M, M = sortL o false A := ⟨_, rfl⟩
      have hMl : M.length = la := by rw [hM, sortL_len, unhide hlen]
      have hA1 : sortA o false A = M := by unfold sortA; rw [hE1, if_pos rfl, hM]
      have hA2 : sortA o false M = M := by unfold sortA; rw [hMl, hE, if_pos rfl, hM, sort_again]
      have hMs : ∀ s ∈ M, s.size ≤ 1073741000 := fun s h => hAs s ((sort_all o A).1.subset (by rw [← hM]; exact h))
      have hchk : checkL o false M = -1 := by rw [hM]; exact sort_checks o hok A
      have hcnt : ∀ x, cnt M x = cnt A x := fun x => by rw [hM]; exact sort_count o A _
      have S1 : Hid (∀ W, Hd w o W → Calls Tryz.prog 8 #[.agg #[.bool o.num, .bool o.fold, .bool o.bls, .bool o.rev, .int .i64 o.fr, .int .i64 o.«to», .int .u8 (o.sep.toNat : Int)], .slice a la ca, .bool false] W fun e w' => ∃ x c, e = .returned (.tuple #[.slice x la c, .int .i64 0]) ∧ (Tx w' x la c M ∧ c ≤ 9223372036854775807) ∧ Below W.heap.size W w') := fun W h =>
        (HS o false A a la ca W ((unhide HT).below h.2) hl hca (fun _ => hAs)).mono fun e w' q => by
          obtain ⟨v, h1, h2, h3⟩ := q
          rw [hA1] at h2
          obtain ⟨x, c, rfl, h4, h5⟩ := own_tx h2
          rw [hMl] at h4 h1
          exact ⟨x, c, by rw [h1, hE], ⟨h4, h5⟩, h3⟩
      have S2 : Hid (∀ W y cy, Tx W y la cy M → cy ≤ 9223372036854775807 → Calls Tryz.prog 8 #[.agg #[.bool o.num, .bool o.fold, .bool o.bls, .bool o.rev, .int .i64 o.fr, .int .i64 o.«to», .int .u8 (o.sep.toNat : Int)], .slice y la cy, .bool false] W fun e w' => ∃ x c, e = .returned (.tuple #[.slice x la c, .int .i64 0]) ∧ (Tx w' x la c M ∧ c ≤ 9223372036854775807) ∧ Below W.heap.size W w') := fun W y cy h hc =>
        (HS o false M y la cy W h hl hc (fun _ => hMs)).mono fun e w' q => by
          obtain ⟨v, h1, h2, h3⟩ := q
          rw [hA2] at h2
          obtain ⟨x, c, rfl, h4, h5⟩ := own_tx h2
          rw [hMl] at h4 h1
          exact ⟨x, c, by rw [h1, hE], ⟨h4, h5⟩, h3⟩
      have CH : Hid (∀ W y cy, Tx W y la cy M → Calls Tryz.prog 23 #[.agg #[.bool o.num, .bool o.fold, .bool o.bls, .bool o.rev, .int .i64 o.fr, .int .i64 o.«to», .int .u8 (o.sep.toNat : Int)], .slice y la cy, .bool false] W fun e w' => e = .returned (.int .i64 (-1)) ∧ Below W.heap.size W w') := fun W y cy h => by rw [← hchk]; exact HC o false M y la cy W h hl hMs
      have CM : Hid (∀ x W y cy, Tx W y la cy M → Calls Tryz.prog 24 #[.slice y la cy, .string x] W fun e w' => e = .returned (.int .i64 (cnt A x : Nat)) ∧ Below W.heap.size W w') := fun x W y cy h => by rw [← hcnt]; exact count_any M x y la cy W h hl
      have CN : Hid (∀ x W, Tx W a la ca A → Calls Tryz.prog 24 #[.slice a la ca, .string x] W fun e w' => e = .returned (.int .i64 (cnt A x : Nat)) ∧ Below W.heap.size W w') := fun x W h => count_any A x a la ca W h hl
      obtain ⟨d0, d1, d2, d3, d4, d5, d6⟩ := (unhide H3).1.cells
      clear AL1 CK hE hE1 hM hA1 hA2 hMs hchk hcnt hok hAs hMl AL HS HC
      go_wp2_with fail
      refine (unhide S1 _ (unhide H3)).mono ?_
      rintro e w4 ⟨x4, c4, rfl, ⟨t4, q4⟩, b4⟩
      have H4 := hide ((unhide H3).step b4)
      clear b4 H3 S1 d0 d1 d2 d3 d4 d5 d6
      obtain ⟨d0, d1, d2, d3, d4, d5, d6⟩ := (unhide H4).1.cells
      have T4 := hide t4
      clear t4
      go_wp2_with fail
      refine (unhide S2 _ _ _ (unhide T4) q4).mono ?_
      rintro e w5 ⟨x5, c5, rfl, ⟨t5, q5⟩, b5⟩
      have H5 := hide ((unhide H4).step b5)
      have T45 := hide ((unhide T4).below b5)
      have T5 := hide t5
      clear b5 H4 S2 d0 d1 d2 d3 d4 d5 d6 t5 T4
      go_wp2_with fail
      refine (Pa.sameTexts_any x4 x5 la c4 c5 c4 c5 M w5 hl (unhide T45) (unhide T5)).mono ?_
      rintro e w6 ⟨rfl, b6⟩
      have H6 := hide ((unhide H5).step b6)
      have T46 := hide ((unhide T45).below b6)
      clear b6 H5 T45 T5
      obtain ⟨d0, d1, d2, d3, d4, d5, d6⟩ := (unhide H6).1.cells
      go_wp2_with fail
      refine (unhide CH _ _ _ (unhide T46)).mono ?_
      rintro e w7 ⟨rfl, b7⟩
      have H7 := hide ((unhide H6).step b7)
      have T47 := hide ((unhide T46).below b7)
      clear b7 H6 T46 CH d0 d1 d2 d3 d4 d5 d6
      have TA7 := hide ((unhide HT).below (unhide H7).2)
      go_wp2_with fail
      go_loopg [9] la (fun g v9 wr => ∃ k : Nat, k ≤ la ∧ g = la - k ∧ v9 = .int .i64 (k : Int) ∧ Hid (Below w7.heap.size w7 wr))
      case atStart => exact ⟨0, Nat.zero_le _, rfl, rfl, Below.refl _ _⟩
      case round =>
        obtain ⟨k, hk, rfl, rfl, hB⟩ := hrel
        by_cases hlt : k < la
        · have hlt' : (k : Int) < (la : Int) := by omega
          obtain ⟨g, off, hg0, hgl, ci⟩ := tx_at (unhide TA7) hlt
          subst hg0
          obtain ⟨x, hx⟩ : ∃ x, x = A.getD k ByteArray.empty := ⟨_, rfl⟩
          rw [← hx] at ci
          clear hx
          have hS : wr.cell? ⟨g, off + k, none⟩ = some (.string x) ∧ Hid (Below w7.heap.size w7 wr) := ⟨((unhide hB).cell (p := ⟨g, off + k, none⟩) hgl).trans ci, hB⟩
          have hSd : wr.drew.cell? ⟨g, off + k, none⟩ = some (.string x) ∧ Hid (Below w7.heap.size w7 wr.drew) := ⟨hS.1, (unhide hB).drew⟩
          have K1 : Hid (∀ W, W.cell? ⟨g, off + k, none⟩ = some (.string x) ∧ Hid (Below w7.heap.size w7 W) → Calls Tryz.prog 24 #[.slice x4 la c4, .string x] W fun e w' => e = .returned (.int .i64 (cnt A x : Nat)) ∧ w'.cell? ⟨g, off + k, none⟩ = some (.string x) ∧ Hid (Below w7.heap.size w7 w')) := fun W h =>
            (unhide CM x W x4 c4 ((unhide T47).below (unhide h.2))).mono fun e w' q => by
              have b := (unhide h.2).trans (q.2.mono (unhide h.2).size)
              exact ⟨q.1, (b.cell (p := ⟨g, off + k, none⟩) hgl).trans ci, b⟩
          have K2 : Hid (∀ W, W.cell? ⟨g, off + k, none⟩ = some (.string x) ∧ Hid (Below w7.heap.size w7 W) → Calls Tryz.prog 24 #[.slice (some ⟨g, off, none⟩) la ca, .string x] W fun e w' => e = .returned (.int .i64 (cnt A x : Nat)) ∧ w'.cell? ⟨g, off + k, none⟩ = some (.string x) ∧ Hid (Below w7.heap.size w7 w')) := fun W h =>
            (unhide CN x W ((unhide TA7).below (unhide h.2))).mono fun e w' q => by
              have b := (unhide h.2).trans (q.2.mono (unhide h.2).size)
              exact ⟨q.1, (b.cell (p := ⟨g, off + k, none⟩) hgl).trans ci, b⟩
          generalize cnt A x = n at *
          clear CM CN T47 TA7 HT H7 ci
          go_wp2_with fail
          go_region_held3 (fun w' => w'.cell? ⟨g, off + k, none⟩ = some (.string x) ∧ Hid (Below w7.heap.size w7 w')) (first | assumption | go_keep)
            (first | (with_reducible refine (unhide K1 _ (by assumption)).mono ?_; rintro e w' ⟨rfl, hS1⟩) | (with_reducible refine (unhide K2 _ (by assumption)).mono ?_; rintro e w' ⟨rfl, hS2⟩))
          go_wp2_with fail
          go_roundg (la - (k + 1))
          case measure => omega
          case rel => exact ⟨k + 1, by omega, rfl, by go_num, hS2.2⟩
        · have hlt' : ¬ (k : Int) < (la : Int) := by omega
          go_wp2_with fail
          go_ret
          exact ⟨rfl, (unhide H7).2.trans ((unhide hB).mono (unhide H7).2.size)⟩
end Go.Proofs.YtjfjhpakkflceaaGreatDoor.So
