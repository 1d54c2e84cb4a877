/- Whether somebody may be: perms.Check and the document's Check walked. -/
import Derived.Test.YtbajjbgeohbdjaaPmMay
import Derived.Test.YtbajjbgeohbdjaaTrStatW
namespace Go.Proofs.Ytbajjbgeohbdjaa.Pm
open Go.RowKit Go.Proofs.Ytbajjbgeohbdjaa.Cu Go.Proofs.Ytbajjbgeohbdjaa.Tr

theorem kd_eq (k c : UInt8) : (((k.toNat : Nat) : Int) == ((c.toNat : Nat) : Int)) = decide (k = c) := kd c
def dirAt (now : Int) (ns : List Nd) (i : Int) : Bool := nodeP now ns i && decide ((nd ns i.toNat).kind = 2)
def someP (now : Int) (ns : List Nd) (e : Ev) : Bool := ownerP e.user && ownerP e.group && decide (0 ≤ e.mask) && decide (e.mask ≤ 511) && dirAt now ns e.dir
theorem someP_is (now : Int) (ns : List Nd) (e : Ev) : someP now ns e = (ownerP e.user && ownerP e.group && decide (0 ≤ e.mask) && decide (e.mask ≤ 511) && (checkP now ns && decide (0 < e.dir) && decide (e.dir < (ns.length : Int)) && !decide ((nd ns e.dir.toNat).kind = 0) && decide ((nd ns e.dir.toNat).kind = 2))) := by
  unfold someP dirAt nodeP
  simp
set_option maxRecDepth 100000 in
set_option maxHeartbeats 1000000 in
theorem pIsOwner_any (n : Int) (w : World) : Calls Try.prog 42 #[.int .i64 n] w fun e w' => e = .returned (.bool (ownerP n)) ∧ w' = w := by
  by_cases a1 : 0 ≤ n
  case neg =>
    have hv : ownerP n = false := by simp [ownerP, a1]
    rw [hv]
    clear hv
    go_enter Try.func42, Try.ntmps42
    go_wp2
    go_ret
    exact ⟨rfl, rfl⟩
  by_cases a2 : n ≤ 65535
  case neg =>
    have hv : ownerP n = false := by simp [ownerP, a1, a2]
    rw [hv]
    clear hv
    go_enter Try.func42, Try.ntmps42
    go_wp2
    go_ret
    exact ⟨rfl, rfl⟩
  have hv : ownerP n = true := by simp [ownerP, a1, a2]
  rw [hv]
  clear hv
  go_enter Try.func42, Try.ntmps42
  go_wp2
  go_ret
  exact ⟨rfl, rfl⟩
set_option maxRecDepth 100000 in
set_option maxHeartbeats 1000000 in
theorem pIsDir_any (a : Option Addr) (n cap : Nat) (ns : List Nd) (now i : Int) (w : World) (h : Ng w a n cap ns) (hs : Sm ns) :
    Calls Try.prog 43 #[.agg #[.slice a n cap, .int .i64 now], .int .i64 i] w fun e w' => e = .returned (.bool (dirAt now ns i)) ∧ Below w.heap.size w w' := by
  have HS : Hid (∀ W, Below w.heap.size w W → Calls Try.prog 59 #[.agg #[.slice a n cap, .int .i64 now], .int .i64 i] W fun e w' => e = .returned (statV now ns i) ∧ Below W.heap.size W w') := fun W hW => stat_any a n cap ns now i W (h.below hW) hs
  have HB1 : Hid (∀ o, Below w.heap.size w (w.alloc o)) := fun o => (Below.refl _ w).alloc (Nat.le_refl _) o
  have HD : Hid (dirAt now ns i = (nodeP now ns i && decide ((nd ns i.toNat).kind = 2))) := rfl
  have HV : Hid (statV now ns i = if nodeP now ns i then .tuple #[.agg (vStat i (nd ns i.toNat)), .int .i64 0] else .tuple #[.agg zStat, .int .i64 1]) := rfl
  obtain ⟨R, hR⟩ : ∃ R, R = dirAt now ns i := ⟨_, rfl⟩
  rw [← hR] at HD ⊢
  clear h hR
  obtain ⟨V, hVe⟩ : ∃ V, V = statV now ns i := ⟨_, rfl⟩
  rw [← hVe] at HS HV
  clear hVe
  obtain ⟨m, hm⟩ : ∃ m, m = nd ns i.toNat := ⟨_, rfl⟩
  rw [← hm] at HD HV
  clear hm
  cases hq : nodeP now ns i with
  | false =>
    rw [hq] at HD HV
    obtain rfl : R = false := by rw [unhide HD]; rfl
    obtain rfl : V = .tuple #[.agg zStat, .int .i64 1] := by rw [unhide HV]; rfl
    clear HD HV hq
    go_enter Try.func43, Try.ntmps43
    go_wp2_with fail
    refine (unhide HS _ (unhide HB1 _)).mono ?_
    rintro e w1 ⟨rfl, hb⟩
    have HB2 := hide ((unhide HB1 _).trans (hb.mono (unhide HB1 _).size))
    clear hb
    go_wp2
    go_ret
    exact ⟨rfl, (unhide HB2).alloc (unhide HB2).size _⟩
  | true =>
    rw [hq] at HD HV
    obtain rfl : V = .tuple #[.agg (vStat i m), .int .i64 0] := by rw [unhide HV]; rfl
    obtain ⟨kd, md, us, gr, lk, ti, dt, tg, ls, pa⟩ := m
    have HR : Hid ((((kd.toNat : Nat) : Int) == 2) = R) := by
      show _ = R
      rw [unhide HD, Bool.true_and]
      exact kd_eq kd 2
    generalize sizeP (⟨kd, md, us, gr, lk, ti, dt, tg, ls, pa⟩ : Nd) = sz at *
    clear HD HV hq
    unfold vStat at HS
    simp only at HS
    go_enter Try.func43, Try.ntmps43
    go_wp2_with fail
    refine (unhide HS _ (unhide HB1 _)).mono ?_
    rintro e w1 ⟨rfl, hb⟩
    have HB2 := hide ((unhide HB1 _).trans (hb.mono (unhide HB1 _).size))
    clear hb
    go_wp2
    go_ret
    exact ⟨ret_b (unhide HR), (unhide HB2).alloc (unhide HB2).size _⟩
set_option maxRecDepth 100000 in
set_option maxHeartbeats 1000000 in
theorem pCheck_any (a : Option Addr) (n cap : Nat) (ns : List Nd) (now : Int) (e : Ev) (w : World) (h : Ng w a n cap ns) (hs : Sm ns) :
    Calls Try.prog 26 #[.agg #[.slice a n cap, .int .i64 now], .agg (ea e)] w fun r w' => r = .returned (.bool (someP now ns e)) ∧ Below w.heap.size w w' := by
  have HD : Hid (∀ W, Below w.heap.size w W → Calls Try.prog 43 #[.agg #[.slice a n cap, .int .i64 now], .int .i64 e.dir] W fun r w' => r = .returned (.bool (dirAt now ns e.dir)) ∧ Below W.heap.size W w') := fun W hW => pIsDir_any a n cap ns now e.dir W (h.below hW) hs
  have HO1 := hide (fun W => pIsOwner_any e.user W)
  have HO2 := hide (fun W => pIsOwner_any e.group W)
  have HR : Hid (someP now ns e = (ownerP e.user && ownerP e.group && decide (0 ≤ e.mask) && decide (e.mask ≤ 511) && dirAt now ns e.dir)) := rfl
  obtain ⟨R, hRe⟩ : ∃ R, R = someP now ns e := ⟨_, rfl⟩
  rw [← hRe] at HR ⊢
  obtain ⟨D, hDe⟩ : ∃ D, D = dirAt now ns e.dir := ⟨_, rfl⟩
  rw [← hDe] at HD HR
  obtain ⟨O1, hO1⟩ : ∃ O, O = ownerP e.user := ⟨_, rfl⟩
  obtain ⟨O2, hO2⟩ : ∃ O, O = ownerP e.group := ⟨_, rfl⟩
  rw [← hO1] at HO1 HR
  rw [← hO2] at HO2 HR
  clear hRe hDe hO1 hO2 h
  obtain ⟨u, g, mk, dr⟩ := e
  unfold ea
  simp only at HD HO1 HO2 HR ⊢
  have HB2 : Hid (Below w.heap.size w ((w.alloc (.cells #[.slice a n cap, .int .i64 now] 24)).alloc (.cells #[.int .i64 u, .int .i64 g, .int .i64 mk, .int .i64 dr] 26))) := b2 w _ _
  cases O1 with
  | false =>
    obtain rfl : R = false := by rw [unhide HR]; rfl
    clear HR HD HO2
    go_enter Try.func26, Try.ntmps26
    go_wp2_with (go_at_call 42; refine (unhide HO1 _).mono ?_; rintro e w' ⟨rfl, rfl⟩)
    go_ret
    exact ⟨rfl, unhide HB2⟩
  | true =>
  cases O2 with
  | false =>
    obtain rfl : R = false := by rw [unhide HR]; rfl
    clear HR HD
    go_enter Try.func26, Try.ntmps26
    go_wp2_with fail
    refine (unhide HO1 _).mono ?_
    rintro e w' ⟨rfl, rfl⟩
    go_wp2_with fail
    refine (unhide HO2 _).mono ?_
    rintro e w' ⟨rfl, rfl⟩
    go_wp2_with fail
    go_ret
    exact ⟨rfl, unhide HB2⟩
  | true =>
  by_cases a1 : 0 ≤ mk
  case neg =>
    obtain rfl : R = false := by rw [unhide HR]; simp [a1]
    clear HR HD
    go_enter Try.func26, Try.ntmps26
    go_wp2_with fail
    refine (unhide HO1 _).mono ?_
    rintro e w' ⟨rfl, rfl⟩
    go_wp2_with fail
    refine (unhide HO2 _).mono ?_
    rintro e w' ⟨rfl, rfl⟩
    go_wp2_with fail
    go_ret
    exact ⟨rfl, unhide HB2⟩
  by_cases a2 : mk ≤ 511
  case neg =>
    obtain rfl : R = false := by rw [unhide HR]; simp [a2]
    clear HR HD
    go_enter Try.func26, Try.ntmps26
    go_wp2_with fail
    refine (unhide HO1 _).mono ?_
    rintro e w' ⟨rfl, rfl⟩
    go_wp2_with fail
    refine (unhide HO2 _).mono ?_
    rintro e w' ⟨rfl, rfl⟩
    go_wp2_with fail
    go_ret
    exact ⟨rfl, unhide HB2⟩
  obtain rfl : R = D := by rw [unhide HR]; simp [a1, a2]
  clear HR
  go_enter Try.func26, Try.ntmps26
  go_wp2_with fail
  refine (unhide HO1 _).mono ?_
  rintro e w' ⟨rfl, rfl⟩
  go_wp2_with fail
  refine (unhide HO2 _).mono ?_
  rintro e w' ⟨rfl, rfl⟩
  go_wp2_with fail
  refine (unhide HD _ (unhide HB2)).mono ?_
  rintro e w1 ⟨rfl, hb⟩
  have HB3 := hide ((unhide HB2).trans (hb.mono (unhide HB2).size))
  clear hb
  go_wp2_with fail
  go_ret
  exact ⟨rfl, unhide HB3⟩
theorem box4e {W : World} {N : Nat} {t : TypeId} {a0 a1 a2 a3 : Value} (h : W.heap[N]? = some (.cells #[a0, a1, a2, a3] t)) : W.cell? ⟨N, 0, none⟩ = some a0 ∧ W.cell? ⟨N, 1, none⟩ = some a1 ∧ W.cell? ⟨N, 2, none⟩ = some a2 ∧ W.cell? ⟨N, 3, none⟩ = some a3 :=
  ⟨by rw [cell_of_row _ _ _ _ _ _ h]; rfl, by rw [cell_of_row _ _ _ _ _ _ h]; rfl, by rw [cell_of_row _ _ _ _ _ _ h]; rfl, by rw [cell_of_row _ _ _ _ _ _ h]; rfl⟩
theorem two_newe (w : World) (o1 o2 : Obj) : Below w.heap.size w ((w.alloc o1).alloc o2) ∧ ((w.alloc o1).alloc o2).heap[w.heap.size]? = some o1 ∧ ((w.alloc o1).alloc o2).heap[w.heap.size + 1]? = some o2 ∧ w.heap.size + 1 < ((w.alloc o1).alloc o2).heap.size := by
  have k1 := heap_alloc_new w o1
  have k2 := heap_alloc_new (w.alloc o1) o2
  rw [World.size_alloc] at k2
  exact ⟨b2 w o1 o2, (Below.heap_alloc _ _ _ (by simp)).trans k1, k2, by simp⟩
end Go.Proofs.Ytbajjbgeohbdjaa.Pm
