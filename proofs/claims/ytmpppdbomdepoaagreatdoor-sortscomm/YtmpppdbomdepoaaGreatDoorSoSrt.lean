/- What Sort of the program answers. -/
import Derived.Test.YtmpppdbomdepoaaGreatDoorSoCompact
import Derived.Test.YtmpppdbomdepoaaGreatDoorSoAns
import Derived.Deep.RegionHeld3
namespace Go.Proofs.YtmpppdbomdepoaaGreatDoor.So
open Go.RowKit Go.Shelf Ky
open Pa (Tx)

attribute [local go_sem] Oper.semAt_some

theorem hd_kp {w W W' : World} {o : Ky.Ord} {g : Nat} (h : Hd w o W) (k : Kp (fun i => i = g) W W') (hg : w.heap.size < g) : Hd w o W' :=
  ⟨(k.block _ h.1.lt (by omega)).trans h.1, h.2.trans (k.below w.heap.size h.2.size (fun i hi e => by omega))⟩
theorem h7_kp {w W W' : World} {o : Ky.Ord} {g : Nat} (h : H7 w o W) (k : Kp (fun i => i = g) W W') (hg : w.heap.size < g) : H7 w o W' := H7.of (hd_kp h.held k hg)
theorem h7_step {w W W' : World} {o : Ky.Ord} (h : H7 w o W) (b : Below W.heap.size W W') : H7 w o W' := H7.of (h.held.step b)

set_option maxRecDepth 100000 in
set_option maxHeartbeats 800000 in
theorem sort_any (o : Ky.Ord) (u : Bool) (A : Ls) (a : Option Addr) (la ca : Nat) (w : World) (hT : Tx w a la ca A) (hl : la ≤ 4611686018427387904) (hs : la ≤ 65536 → ∀ s ∈ A, s.size ≤ 1073741000) :
    Calls Tryz.prog 16 #[ov o, .slice a la ca, .bool u] w fun e w' => ∃ v, e = .returned (.tuple #[v, .int .i64 (sortE o la)]) ∧ w'.ownsRow w.heap.size 9 1 v (sortA o u A).length (strs (sortA o u A)) ∧ Below w.heap.size w w' := by
  have hlen := hT.len
  have CK := hide (fun W => check_any o W)
  unfold ov at CK
  have H0 : Hid (Hd w o (w.alloc (.cells #[.bool o.num, .bool o.fold, .bool o.bls, .bool o.rev, .int .i64 o.fr, .int .i64 o.«to», .int .u8 (o.sep.toNat : Int)] 23))) := Hd.new w o
  by_cases hbad : okO o = false ∨ 65536 < la
  · have hA : sortA o u A = [] := by
      unfold sortA sortE
      rw [hlen]
      rcases hbad with h | h
      · rw [if_pos h]; rfl
      · by_cases h1 : okO o = false
        · rw [if_pos h1]; rfl
        · rw [if_neg h1, if_pos h]; rfl
    rw [hA]
    have hnil : Hid (∀ W : World, W.ownsRow w.heap.size 9 1 (.slice none 0 0) ([] : Ls).length (strs [])) := fun W => World.ownsRow_nil _ _ _ _
    unfold ov sortE
    cases hok : okO o
    · rw [hok] at CK
      rw [if_pos rfl]
      clear hok hbad hA
      go_enter Tryz.func16, Tryz.ntmps16
      go_wp2_with fail
      refine (unhide CK _).mono ?_
      rintro e w1 ⟨rfl, b1⟩
      have H1 := hide ((unhide H0).step b1)
      clear b1 H0 CK
      go_wp2_with fail
      go_ret2
      exact ⟨_, rfl, unhide hnil _, (unhide H1).2⟩
    · rw [hok] at CK hbad
      have hbig : 65536 < la := by simpa using hbad
      have hbig' : (65536 : Int) < (la : Int) := by omega
      rw [if_neg (by simp), if_pos hbig]
      clear hok hbad hA hbig
      go_enter Tryz.func16, Tryz.ntmps16
      go_wp2_with fail
      refine (unhide CK _).mono ?_
      rintro e w1 ⟨rfl, b1⟩
      have H1 := hide ((unhide H0).step b1)
      clear b1 H0 CK
      go_wp2_with fail
      go_ret2
      exact ⟨_, rfl, unhide hnil _, (unhide H1).2⟩
  · have hok : okO o = true := by cases h : okO o <;> simp_all
    have hsm : la ≤ 65536 := by omega
    have hsm' : ¬ (65536 : Int) < (la : Int) := by omega
    have hE : sortE o la = 0 := by unfold sortE; rw [hok, if_neg (by simp), if_neg (by omega)]
    have hA : sortA o u A = sortL o u A := by unfold sortA; rw [hlen, hE, if_pos rfl]
    rw [hA, hE]
    have hs' := hs hsm
    have HOK := hide hok
    have CI : Hid (∀ W, Hd w o W → Calls Tryz.prog 23 #[.agg #[.bool o.num, .bool o.fold, .bool o.bls, .bool o.rev, .int .i64 o.fr, .int .i64 o.«to», .int .u8 (o.sep.toNat : Int)], .slice a la ca] W fun e w' => ∃ g, e = .returned (.slice (some ⟨g, 0, none⟩) la la) ∧ Hid (Row3 g la w' (itemsL o A) ∧ W.heap.size ≤ g ∧ Below W.heap.size W w')) := fun W h => itemsOf_any o A a la ca W (hT.below h.2) hsm hs'
    have hIl : Hid ((itemsL o A).length = la) := by show _ = _; rw [itemsL_len, hlen]
    have hDI : Hid (∀ x ∈ itemsL o A, DI x) := fun x hx => by
      obtain ⟨i, hi, rfl⟩ := itemsL_mem o A x hx
      exact itf_di o _ i (hs' _ (mem_at hi))
    rw [hok] at CK
    clear hs hs' hE hA hbad hok
    cases u
    · unfold ov
      go_enter Tryz.func16, Tryz.ntmps16
      go_wp2_with fail
      refine (unhide CK _).mono ?_
      rintro e w1 ⟨rfl, b1⟩
      have H1 := hide ((unhide H0).step b1)
      obtain ⟨d0, d1, d2, d3, d4, d5, d6⟩ := (unhide H1).1.cells
      clear b1 H0 CK
      go_wp2_with fail
      refine (unhide CI _ (unhide H1)).mono ?_
      rintro e w2 ⟨g, rfl, q2⟩
      obtain ⟨r2, g2, b2⟩ := unhide q2
      have H2 := hide ((unhide H1).step b2)
      have R2 := hide r2
      have hgw : g < w2.heap.size := r2.lt
      have hwg : w.heap.size ≤ g := Nat.le_trans (unhide H1).2.size g2
      have hwg2 : w.heap.size < g := Nat.lt_of_lt_of_le (unhide H1).1.lt g2
      clear q2 r2 g2 b2 H1 CI d0 d1 d2 d3 d4 d5 d6
      obtain ⟨d0, d1, d2, d3, d4, d5, d6⟩ := (unhide H2).1.cells
      have hR2 := hide (unhide R2).drew
      have hS2 : w2.drew.cell? ⟨w.heap.size, 0, none⟩ = some (.bool o.num) ∧ w2.drew.cell? ⟨w.heap.size, 1, none⟩ = some (.bool o.fold) ∧ w2.drew.cell? ⟨w.heap.size, 2, none⟩ = some (.bool o.bls) ∧ w2.drew.cell? ⟨w.heap.size, 3, none⟩ = some (.bool o.rev) ∧ w2.drew.cell? ⟨w.heap.size, 4, none⟩ = some (.int .i64 o.fr) ∧ w2.drew.cell? ⟨w.heap.size, 5, none⟩ = some (.int .i64 o.«to») ∧ w2.drew.cell? ⟨w.heap.size, 6, none⟩ = some (.int .u8 (o.sep.toNat : Int)) ∧ Hid (Hd w o w2.drew) := H7.of (unhide H2).drew
      have hwg' : w.heap.size < g := hwg2
      have hg2 : g < w2.drew.heap.size := hgw
      have C3 : Hid (Calls Tryz.prog 26 #[.agg #[.bool o.num, .bool o.fold, .bool o.bls, .bool o.rev, .int .i64 o.fr, .int .i64 o.«to», .int .u8 (o.sep.toNat : Int)]] w2.drew fun e w' => ∃ v, e = .returned v ∧ Cmp w' (fun k => k = g) v (cmpK o) DI ∧ Below w2.drew.heap.size w2.drew w') := byKeys_any o (fun k => k = g) w2.drew (fun i e => by omega)
      have C4 : Hid (∀ W, g < W.heap.size → Calls Tryz.prog 28 #[.agg #[.bool o.num, .bool o.fold, .bool o.bls, .bool o.rev, .int .i64 o.fr, .int .i64 o.«to», .int .u8 (o.sep.toNat : Int)]] W fun e w' => ∃ v, e = .returned v ∧ Cmp w' (fun k => k = g) v (cmpY o) DI ∧ Below W.heap.size W w') := fun W h => byBytes_any o (fun k => k = g) W (fun i e => by omega)
      have C5 : Hid (∀ W f1 f2 c1 c2, g < W.heap.size → Cmp W (fun k => k = g) f1 c1 DI → Cmp W (fun k => k = g) f2 c2 DI → Calls Tryz.prog 27 #[f1, f2] W fun e w' => ∃ v, e = .returned v ∧ Cmp w' (fun k => k = g) v (Ky.lex c1 c2) DI ∧ Below W.heap.size W w') := fun W f1 f2 c1 c2 h h1 h2 => cthen_any W (fun i e => by omega) h1 h2
      have C6 : Hid (∀ W f, Cmp W (fun k => k = g) f (Ky.lex (cmpK o) (cmpY o)) DI → Row3 g la W (itemsL o A) → Calls Tryz.prog 72 #[.slice (some ⟨g, 0, none⟩) la la, f] W fun e w' => ∃ g' cap', e = .returned (.slice (some ⟨g', 0, none⟩) la cap') ∧ Hid (∃ S, Row3 g' cap' w' S ∧ S.Perm (itemsL o A) ∧ InO (Ky.lex (cmpK o) (cmpY o)) S ∧ W.heap.size ≤ g' ∧ Kp (fun k => k = g) W w')) := fun W f h1 h2 => by
        have q := inOrder_any (itemsL o A) g la f _ W ((good_cmpK o).lex (good_cmpY o)) h1 h2 (by rw [unhide hIl]; exact hsm) (unhide hDI)
        rw [unhide hIl] at q
        exact q
      have C7 : Hid (∀ W g' cap' S, Row3 g' cap' W S → S.length = la → Calls Tryz.prog 24 #[.slice (some ⟨g', 0, none⟩) la cap'] W fun e w' => ∃ v, e = .returned v ∧ w'.ownsRow W.heap.size 9 1 v la (strs (S.map It.line)) ∧ Below W.heap.size W w') := fun W g' cap' S h1 h2 => by
        have q := linesOf_any S g' cap' W h1 (by rw [h2]; exact hsm)
        rw [h2] at q
        exact q
      clear H2 R2 d0 d1 d2 d3 d4 d5 d6
      go_wp2_with fail
      go_region_held3 (fun w' => w'.cell? ⟨w.heap.size, 0, none⟩ = some (.bool o.num) ∧ w'.cell? ⟨w.heap.size, 1, none⟩ = some (.bool o.fold) ∧ w'.cell? ⟨w.heap.size, 2, none⟩ = some (.bool o.bls) ∧ w'.cell? ⟨w.heap.size, 3, none⟩ = some (.bool o.rev) ∧ w'.cell? ⟨w.heap.size, 4, none⟩ = some (.int .i64 o.fr) ∧ w'.cell? ⟨w.heap.size, 5, none⟩ = some (.int .i64 o.«to») ∧ w'.cell? ⟨w.heap.size, 6, none⟩ = some (.int .u8 (o.sep.toNat : Int)) ∧ Hid (Hd w o w')) (first | assumption | go_keep)
        (first
          | ((with_reducible refine (unhide C3).mono ?_); rintro e w3 ⟨f1, rfl, hC1, b3⟩; have hS3 : w3.cell? ⟨w.heap.size, 0, none⟩ = some (.bool o.num) ∧ w3.cell? ⟨w.heap.size, 1, none⟩ = some (.bool o.fold) ∧ w3.cell? ⟨w.heap.size, 2, none⟩ = some (.bool o.bls) ∧ w3.cell? ⟨w.heap.size, 3, none⟩ = some (.bool o.rev) ∧ w3.cell? ⟨w.heap.size, 4, none⟩ = some (.int .i64 o.fr) ∧ w3.cell? ⟨w.heap.size, 5, none⟩ = some (.int .i64 o.«to») ∧ w3.cell? ⟨w.heap.size, 6, none⟩ = some (.int .u8 (o.sep.toNat : Int)) ∧ Hid (Hd w o w3) := h7_step hS2 b3; have hR3 := hide ((unhide hR2).keep (b3.block _ hg2)); have hg3 : g < w3.heap.size := Nat.lt_of_lt_of_le hg2 b3.size; have HC1 := hide hC1; clear hC1 b3)
          | ((with_reducible refine (unhide C4 _ hg3).mono ?_); rintro e w4 ⟨f2, rfl, hC2, b4⟩; have hS4 : w4.cell? ⟨w.heap.size, 0, none⟩ = some (.bool o.num) ∧ w4.cell? ⟨w.heap.size, 1, none⟩ = some (.bool o.fold) ∧ w4.cell? ⟨w.heap.size, 2, none⟩ = some (.bool o.bls) ∧ w4.cell? ⟨w.heap.size, 3, none⟩ = some (.bool o.rev) ∧ w4.cell? ⟨w.heap.size, 4, none⟩ = some (.int .i64 o.fr) ∧ w4.cell? ⟨w.heap.size, 5, none⟩ = some (.int .i64 o.«to») ∧ w4.cell? ⟨w.heap.size, 6, none⟩ = some (.int .u8 (o.sep.toNat : Int)) ∧ Hid (Hd w o w4) := h7_step hS3 b4; have hR4 := hide ((unhide hR3).keep (b4.block _ hg3)); have hg4 : g < w4.heap.size := Nat.lt_of_lt_of_le hg3 b4.size; have HC12 := hide ((unhide HC1).keep (Kp.of b4)); have HC2 := hide hC2; clear hC2 b4)
          | ((with_reducible refine (unhide C5 _ f1 f2 _ _ hg4 (unhide HC12) (unhide HC2)).mono ?_); rintro e w5 ⟨f3, rfl, hC3, b5⟩; have hS5 : w5.cell? ⟨w.heap.size, 0, none⟩ = some (.bool o.num) ∧ w5.cell? ⟨w.heap.size, 1, none⟩ = some (.bool o.fold) ∧ w5.cell? ⟨w.heap.size, 2, none⟩ = some (.bool o.bls) ∧ w5.cell? ⟨w.heap.size, 3, none⟩ = some (.bool o.rev) ∧ w5.cell? ⟨w.heap.size, 4, none⟩ = some (.int .i64 o.fr) ∧ w5.cell? ⟨w.heap.size, 5, none⟩ = some (.int .i64 o.«to») ∧ w5.cell? ⟨w.heap.size, 6, none⟩ = some (.int .u8 (o.sep.toNat : Int)) ∧ Hid (Hd w o w5) := h7_step hS4 b5; have hR5 := hide ((unhide hR4).keep (b5.block _ hg4)); have HC3 := hide hC3; clear hC3 b5)
          | ((with_reducible refine (unhide C6 _ f3 (unhide HC3) (unhide hR5)).mono ?_); rintro e w6 ⟨g', cap', rfl, q6⟩; obtain ⟨S, r6, p6, i6, z6, k6⟩ := unhide q6; have hS6 : w6.cell? ⟨w.heap.size, 0, none⟩ = some (.bool o.num) ∧ w6.cell? ⟨w.heap.size, 1, none⟩ = some (.bool o.fold) ∧ w6.cell? ⟨w.heap.size, 2, none⟩ = some (.bool o.bls) ∧ w6.cell? ⟨w.heap.size, 3, none⟩ = some (.bool o.rev) ∧ w6.cell? ⟨w.heap.size, 4, none⟩ = some (.int .i64 o.fr) ∧ w6.cell? ⟨w.heap.size, 5, none⟩ = some (.int .i64 o.«to») ∧ w6.cell? ⟨w.heap.size, 6, none⟩ = some (.int .u8 (o.sep.toNat : Int)) ∧ Hid (Hd w o w6) := h7_kp hS5 k6 hwg'; have hR6 := hide r6; have hI6 := hide (sorted_is o (unhide HOK) A S p6 i6); have hl6 : Hid (S.length = la) := (by rw [p6.length_eq]; exact hIl); clear q6 r6 p6 i6 z6 k6)
          | ((with_reducible refine (unhide C7 _ g' cap' S (unhide hR6) (unhide hl6)).mono ?_); rintro e w7 ⟨v7, rfl, o7, b7⟩; have hS7 : w7.cell? ⟨w.heap.size, 0, none⟩ = some (.bool o.num) ∧ w7.cell? ⟨w.heap.size, 1, none⟩ = some (.bool o.fold) ∧ w7.cell? ⟨w.heap.size, 2, none⟩ = some (.bool o.bls) ∧ w7.cell? ⟨w.heap.size, 3, none⟩ = some (.bool o.rev) ∧ w7.cell? ⟨w.heap.size, 4, none⟩ = some (.int .i64 o.fr) ∧ w7.cell? ⟨w.heap.size, 5, none⟩ = some (.int .i64 o.«to») ∧ w7.cell? ⟨w.heap.size, 6, none⟩ = some (.int .u8 (o.sep.toNat : Int)) ∧ Hid (Hd w o w7) := h7_step hS6 b7; have hO7 := hide (own_base o7 hS6.2.2.2.2.2.2.2.2.size); clear o7 b7))
      go_wp2_with fail
      go_ret2
      exact ⟨_, rfl, by rw [sortL_len, hlen, ← unhide hI6]; exact unhide hO7, hS7.2.2.2.2.2.2.2.2⟩
    · unfold ov
      go_enter Tryz.func16, Tryz.ntmps16
      go_wp2_with fail
      refine (unhide CK _).mono ?_
      rintro e w1 ⟨rfl, b1⟩
      have H1 := hide ((unhide H0).step b1)
      obtain ⟨d0, d1, d2, d3, d4, d5, d6⟩ := (unhide H1).1.cells
      clear b1 H0 CK
      go_wp2_with fail
      refine (unhide CI _ (unhide H1)).mono ?_
      rintro e w2 ⟨g, rfl, q2⟩
      obtain ⟨r2, g2, b2⟩ := unhide q2
      have H2 := hide ((unhide H1).step b2)
      have R2 := hide r2
      have hgw : g < w2.heap.size := r2.lt
      have hwg : w.heap.size ≤ g := Nat.le_trans (unhide H1).2.size g2
      have hwg2 : w.heap.size < g := Nat.lt_of_lt_of_le (unhide H1).1.lt g2
      clear q2 r2 g2 b2 H1 CI d0 d1 d2 d3 d4 d5 d6
      obtain ⟨d0, d1, d2, d3, d4, d5, d6⟩ := (unhide H2).1.cells
      have hR2 := hide (unhide R2).drew
      have hS2 : w2.drew.cell? ⟨w.heap.size, 0, none⟩ = some (.bool o.num) ∧ w2.drew.cell? ⟨w.heap.size, 1, none⟩ = some (.bool o.fold) ∧ w2.drew.cell? ⟨w.heap.size, 2, none⟩ = some (.bool o.bls) ∧ w2.drew.cell? ⟨w.heap.size, 3, none⟩ = some (.bool o.rev) ∧ w2.drew.cell? ⟨w.heap.size, 4, none⟩ = some (.int .i64 o.fr) ∧ w2.drew.cell? ⟨w.heap.size, 5, none⟩ = some (.int .i64 o.«to») ∧ w2.drew.cell? ⟨w.heap.size, 6, none⟩ = some (.int .u8 (o.sep.toNat : Int)) ∧ Hid (Hd w o w2.drew) := H7.of (unhide H2).drew
      have hwg' : w.heap.size < g := hwg2
      have hg2 : g < w2.drew.heap.size := hgw
      have C3 : Hid (Calls Tryz.prog 26 #[.agg #[.bool o.num, .bool o.fold, .bool o.bls, .bool o.rev, .int .i64 o.fr, .int .i64 o.«to», .int .u8 (o.sep.toNat : Int)]] w2.drew fun e w' => ∃ v, e = .returned v ∧ Cmp w' (fun k => k = g) v (cmpK o) DI ∧ Below w2.drew.heap.size w2.drew w') := byKeys_any o (fun k => k = g) w2.drew (fun i e => by omega)
      have C5 : Hid (∀ W f1 c1, g < W.heap.size → Cmp W (fun k => k = g) f1 c1 DI → Calls Tryz.prog 27 #[f1, .func (.func 74) #[] #[]] W fun e w' => ∃ v, e = .returned v ∧ Cmp w' (fun k => k = g) v (Ky.lex c1 cmpP) DI ∧ Below W.heap.size W w') := fun W f1 c1 h h1 => cthen_any W (fun i e => by omega) h1 (byPlace_cmp _ _ W)
      have C6 : Hid (∀ W f, Cmp W (fun k => k = g) f (Ky.lex (cmpK o) cmpP) DI → Row3 g la W (itemsL o A) → Calls Tryz.prog 72 #[.slice (some ⟨g, 0, none⟩) la la, f] W fun e w' => ∃ g' cap', e = .returned (.slice (some ⟨g', 0, none⟩) la cap') ∧ Hid (∃ S, Row3 g' cap' w' S ∧ S.Perm (itemsL o A) ∧ InO (Ky.lex (cmpK o) cmpP) S ∧ W.heap.size ≤ g' ∧ Kp (fun k => k = g) W w')) := fun W f h1 h2 => by
        have q := inOrder_any (itemsL o A) g la f _ W ((good_cmpK o).lex good_cmpP) h1 h2 (by rw [unhide hIl]; exact hsm) (unhide hDI)
        rw [unhide hIl] at q
        exact q
      have C8 : Hid (∀ W g', g' < W.heap.size → Calls Tryz.prog 26 #[.agg #[.bool o.num, .bool o.fold, .bool o.bls, .bool o.rev, .int .i64 o.fr, .int .i64 o.«to», .int .u8 (o.sep.toNat : Int)]] W fun e w' => ∃ v, e = .returned v ∧ Cmp w' (fun k => k = g') v (cmpK o) DI ∧ Below W.heap.size W w') := fun W g' h => byKeys_any o (fun k => k = g') W (fun i e => by omega)
      have C9 : Hid (∀ W g' cap' S f, Cmp W (fun k => k = g') f (cmpK o) DI → Row3 g' cap' W S → S.length = la → (∀ x ∈ S, DI x) → Calls Tryz.prog 73 #[.slice (some ⟨g', 0, none⟩) la cap', f] W fun e w' => e = .returned (.slice (some ⟨g', 0, none⟩) (uq (cmpK o) S).length cap') ∧ Hid (Row3 g' cap' w' (uq (cmpK o) S) ∧ Kp (fun k => k = g') W w')) := fun W g' cap' S f h1 h2 h3 h4 => by
        have q := firstOfAlike_any S g' cap' f (cmpK o) W (good_cmpK o) h1 h2 (by rw [h3]; exact hsm) h4
        rw [h3] at q
        exact q
      have C7 : Hid (∀ W g' cap' S, Row3 g' cap' W S → S.length ≤ 65536 → Calls Tryz.prog 24 #[.slice (some ⟨g', 0, none⟩) S.length cap'] W fun e w' => ∃ v, e = .returned v ∧ w'.ownsRow W.heap.size 9 1 v S.length (strs (S.map It.line)) ∧ Below W.heap.size W w') := fun W g' cap' S h1 h2 => linesOf_any S g' cap' W h1 h2
      clear H2 R2 d0 d1 d2 d3 d4 d5 d6
      go_wp2_with fail
      go_region_held3 (fun w' => w'.cell? ⟨w.heap.size, 0, none⟩ = some (.bool o.num) ∧ w'.cell? ⟨w.heap.size, 1, none⟩ = some (.bool o.fold) ∧ w'.cell? ⟨w.heap.size, 2, none⟩ = some (.bool o.bls) ∧ w'.cell? ⟨w.heap.size, 3, none⟩ = some (.bool o.rev) ∧ w'.cell? ⟨w.heap.size, 4, none⟩ = some (.int .i64 o.fr) ∧ w'.cell? ⟨w.heap.size, 5, none⟩ = some (.int .i64 o.«to») ∧ w'.cell? ⟨w.heap.size, 6, none⟩ = some (.int .u8 (o.sep.toNat : Int)) ∧ Hid (Hd w o w')) (first | assumption | go_keep)
        (first
          | ((with_reducible refine (unhide C3).mono ?_); rintro e w3 ⟨f1, rfl, hC1, b3⟩; have hS3 : w3.cell? ⟨w.heap.size, 0, none⟩ = some (.bool o.num) ∧ w3.cell? ⟨w.heap.size, 1, none⟩ = some (.bool o.fold) ∧ w3.cell? ⟨w.heap.size, 2, none⟩ = some (.bool o.bls) ∧ w3.cell? ⟨w.heap.size, 3, none⟩ = some (.bool o.rev) ∧ w3.cell? ⟨w.heap.size, 4, none⟩ = some (.int .i64 o.fr) ∧ w3.cell? ⟨w.heap.size, 5, none⟩ = some (.int .i64 o.«to») ∧ w3.cell? ⟨w.heap.size, 6, none⟩ = some (.int .u8 (o.sep.toNat : Int)) ∧ Hid (Hd w o w3) := h7_step hS2 b3; have hR3 := hide ((unhide hR2).keep (b3.block _ hg2)); have hg3 : g < w3.heap.size := Nat.lt_of_lt_of_le hg2 b3.size; have HC1 := hide hC1; clear hC1 b3)
          | ((with_reducible refine (unhide C5 _ f1 _ hg3 (unhide HC1)).mono ?_); rintro e w5 ⟨f3, rfl, hC3, b5⟩; have hS5 : w5.cell? ⟨w.heap.size, 0, none⟩ = some (.bool o.num) ∧ w5.cell? ⟨w.heap.size, 1, none⟩ = some (.bool o.fold) ∧ w5.cell? ⟨w.heap.size, 2, none⟩ = some (.bool o.bls) ∧ w5.cell? ⟨w.heap.size, 3, none⟩ = some (.bool o.rev) ∧ w5.cell? ⟨w.heap.size, 4, none⟩ = some (.int .i64 o.fr) ∧ w5.cell? ⟨w.heap.size, 5, none⟩ = some (.int .i64 o.«to») ∧ w5.cell? ⟨w.heap.size, 6, none⟩ = some (.int .u8 (o.sep.toNat : Int)) ∧ Hid (Hd w o w5) := h7_step hS3 b5; have hR5 := hide ((unhide hR3).keep (b5.block _ hg3)); have hg5 : g < w5.heap.size := Nat.lt_of_lt_of_le hg3 b5.size; have HC3 := hide hC3; clear hC3 b5)
          | ((with_reducible refine (unhide C6 _ f3 (unhide HC3) (unhide hR5)).mono ?_); rintro e w6 ⟨g', cap', rfl, q6⟩; obtain ⟨S, r6, p6, i6, z6, k6⟩ := unhide q6; have hS6 : w6.cell? ⟨w.heap.size, 0, none⟩ = some (.bool o.num) ∧ w6.cell? ⟨w.heap.size, 1, none⟩ = some (.bool o.fold) ∧ w6.cell? ⟨w.heap.size, 2, none⟩ = some (.bool o.bls) ∧ w6.cell? ⟨w.heap.size, 3, none⟩ = some (.bool o.rev) ∧ w6.cell? ⟨w.heap.size, 4, none⟩ = some (.int .i64 o.fr) ∧ w6.cell? ⟨w.heap.size, 5, none⟩ = some (.int .i64 o.«to») ∧ w6.cell? ⟨w.heap.size, 6, none⟩ = some (.int .u8 (o.sep.toNat : Int)) ∧ Hid (Hd w o w6) := h7_kp hS5 k6 hwg'; have hR6 := hide r6; have hg6 : g' < w6.heap.size := r6.lt; have hw6 : w.heap.size < g' := (by omega); have hI6 := hide (firsts_is o (unhide HOK) A S p6 i6); have hl6 : Hid (S.length = la) := (by rw [p6.length_eq]; exact hIl); have hD6 : Hid (∀ x ∈ S, DI x) := fun x hx => unhide hDI x (p6.subset hx); clear q6 r6 p6 i6 z6 k6)
          | ((with_reducible refine (unhide C8 _ g' hg6).mono ?_); rintro e w8 ⟨f4, rfl, hC8, b8⟩; have hS8 : w8.cell? ⟨w.heap.size, 0, none⟩ = some (.bool o.num) ∧ w8.cell? ⟨w.heap.size, 1, none⟩ = some (.bool o.fold) ∧ w8.cell? ⟨w.heap.size, 2, none⟩ = some (.bool o.bls) ∧ w8.cell? ⟨w.heap.size, 3, none⟩ = some (.bool o.rev) ∧ w8.cell? ⟨w.heap.size, 4, none⟩ = some (.int .i64 o.fr) ∧ w8.cell? ⟨w.heap.size, 5, none⟩ = some (.int .i64 o.«to») ∧ w8.cell? ⟨w.heap.size, 6, none⟩ = some (.int .u8 (o.sep.toNat : Int)) ∧ Hid (Hd w o w8) := h7_step hS6 b8; have hR8 := hide ((unhide hR6).keep (b8.block _ hg6)); have HC8 := hide hC8; clear hC8 b8)
          | ((with_reducible refine (unhide C9 _ g' cap' S f4 (unhide HC8) (unhide hR8) (unhide hl6) (unhide hD6)).mono ?_); rintro e w9 ⟨rfl, q9⟩; have hS9 : w9.cell? ⟨w.heap.size, 0, none⟩ = some (.bool o.num) ∧ w9.cell? ⟨w.heap.size, 1, none⟩ = some (.bool o.fold) ∧ w9.cell? ⟨w.heap.size, 2, none⟩ = some (.bool o.bls) ∧ w9.cell? ⟨w.heap.size, 3, none⟩ = some (.bool o.rev) ∧ w9.cell? ⟨w.heap.size, 4, none⟩ = some (.int .i64 o.fr) ∧ w9.cell? ⟨w.heap.size, 5, none⟩ = some (.int .i64 o.«to») ∧ w9.cell? ⟨w.heap.size, 6, none⟩ = some (.int .u8 (o.sep.toNat : Int)) ∧ Hid (Hd w o w9) := h7_kp hS8 (unhide q9).2 hw6; have hR9 := hide (unhide q9).1; have hl9 : Hid ((uq (cmpK o) S).length ≤ 65536) := Nat.le_trans (uq_len _ S) (by rw [unhide hl6]; exact hsm); clear q9)
          | ((with_reducible refine (unhide C7 _ g' cap' _ (unhide hR9) (unhide hl9)).mono ?_); rintro e w7 ⟨v7, rfl, o7, b7⟩; have hS7 : w7.cell? ⟨w.heap.size, 0, none⟩ = some (.bool o.num) ∧ w7.cell? ⟨w.heap.size, 1, none⟩ = some (.bool o.fold) ∧ w7.cell? ⟨w.heap.size, 2, none⟩ = some (.bool o.bls) ∧ w7.cell? ⟨w.heap.size, 3, none⟩ = some (.bool o.rev) ∧ w7.cell? ⟨w.heap.size, 4, none⟩ = some (.int .i64 o.fr) ∧ w7.cell? ⟨w.heap.size, 5, none⟩ = some (.int .i64 o.«to») ∧ w7.cell? ⟨w.heap.size, 6, none⟩ = some (.int .u8 (o.sep.toNat : Int)) ∧ Hid (Hd w o w7) := h7_step hS9 b7; have hO7 := hide (own_base o7 hS9.2.2.2.2.2.2.2.2.size); clear o7 b7))
      go_wp2_with fail
      go_ret2
      exact ⟨_, rfl, by have q := unhide hO7; have e := unhide hI6; rw [← e, List.length_map]; exact q, hS7.2.2.2.2.2.2.2.2⟩
end Go.Proofs.YtmpppdbomdepoaaGreatDoor.So
