import Derived.Test.YtidhceebafmlkaaGreatDoorPmMay
import Derived.Test.YtidhceebafmlkaaGreatDoorTrStatW
import Derived.Test.YtidhceebafmlkaaGreatDoorPtLead
namespace Go.Proofs.YtidhceebafmlkaaGreatDoor.Pm
open Go.RowKit Cu Tr
theorem kd_eq (k c : UInt8) : (((k.toNat : Nat) : Int) == ((c.toNat : Nat) : Int)) = decide (k = c) := kd c
def dirAt (now : Int) (ns : List Nd) (i : Int) : Bool := nodeP now ns i && decide ((nd ns i.toNat).kind = 2)
def someP (now : Int) (ns : List Nd) (e : Ev) : Bool := ownerP e.user && ownerP e.group && decide (0 ≤ e.mask) && decide (e.mask ≤ 511) && dirAt now ns e.dir
theorem someP_is (now : Int) (ns : List Nd) (e : Ev) : someP now ns e = (ownerP e.user && ownerP e.group && decide (0 ≤ e.mask) && decide (e.mask ≤ 511) && (checkP now ns && decide (0 < e.dir) && decide (e.dir < (ns.length : Int)) && !decide ((nd ns e.dir.toNat).kind = 0) && decide ((nd ns e.dir.toNat).kind = 2))) := by
  unfold someP dirAt nodeP
  simp
set_option maxRecDepth 100000 in
set_option maxHeartbeats 1000000 in
theorem pIsOwner_any (n : Int) (w : World) : Calls Tryz.prog 119 #[.int .i64 n] w fun e w' => e = .returned (.bool (ownerP n)) ∧ w' = w := by
  by_cases a1 : 0 ≤ n
  case neg =>
    have hv : ownerP n = false := by simp [ownerP, a1]
    rw [hv]
    clear hv
    go_enter Tryz.func119, Tryz.ntmps119
    go_wp2
    go_ret
    exact ⟨rfl, rfl⟩
  by_cases a2 : n ≤ 65535
  case neg =>
    have hv : ownerP n = false := by simp [ownerP, a1, a2]
    rw [hv]
    clear hv
    go_enter Tryz.func119, Tryz.ntmps119
    go_wp2
    go_ret
    exact ⟨rfl, rfl⟩
  have hv : ownerP n = true := by simp [ownerP, a1, a2]
  rw [hv]
  clear hv
  go_enter Tryz.func119, Tryz.ntmps119
  go_wp2
  go_ret
  exact ⟨rfl, rfl⟩
set_option maxRecDepth 100000 in
set_option maxHeartbeats 1000000 in
theorem pIsDir_any (a : Option Addr) (n cap : Nat) (ns : List Nd) (now i : Int) (w : World) (h : Ng w a n cap ns) (hs : Sm ns) :
    Calls Tryz.prog 120 #[.agg #[.slice a n cap, .int .i64 now], .int .i64 i] w fun e w' => e = .returned (.bool (dirAt now ns i)) ∧ Below w.heap.size w w' := by
  have HS : Hid (∀ W, Below w.heap.size w W → Calls Tryz.prog 99 #[.agg #[.slice a n cap, .int .i64 now], .int .i64 i] W fun e w' => e = .returned (statV now ns i) ∧ Below W.heap.size W w') := fun W hW => stat_any a n cap ns now i W (h.below hW) hs
  have HB1 : Hid (∀ o, Below w.heap.size w (w.alloc o)) := fun o => (Below.refl _ w).alloc (Nat.le_refl _) o
  have HD : Hid (dirAt now ns i = (nodeP now ns i && decide ((nd ns i.toNat).kind = 2))) := rfl
  have HV : Hid (statV now ns i = if nodeP now ns i then .tuple #[.agg (vStat i (nd ns i.toNat)), .int .i64 0] else .tuple #[.agg zStat, .int .i64 1]) := rfl
  obtain ⟨R, hR⟩ : ∃ R, R = dirAt now ns i := ⟨_, rfl⟩
  rw [← hR] at HD ⊢
  clear h hR
  obtain ⟨V, hVe⟩ : ∃ V, V = statV now ns i := ⟨_, rfl⟩
  rw [← hVe] at HS HV
  clear hVe
  obtain ⟨m, hm⟩ : ∃ m, m = nd ns i.toNat := ⟨_, rfl⟩
  rw [← hm] at HD HV
  clear hm
  cases hq : nodeP now ns i with
  | false =>
    rw [hq] at HD HV
    obtain rfl : R = false := by rw [uh HD]; rfl
    obtain rfl : V = .tuple #[.agg zStat, .int .i64 1] := by rw [uh HV]; rfl
    clear HD HV hq
    go_enter Tryz.func120, Tryz.ntmps120
    go_wp2_with fail
    refine (uh HS _ (uh HB1 _)).mono ?_
    rintro e w1 ⟨rfl, hb⟩
    have HB2 := hide ((uh HB1 _).trans (hb.mono (uh HB1 _).size))
    clear hb
    go_wp2
    go_ret
    exact ⟨rfl, (uh HB2).alloc (uh HB2).size _⟩
  | true =>
    rw [hq] at HD HV
    obtain rfl : V = .tuple #[.agg (vStat i m), .int .i64 0] := by rw [uh HV]; rfl
    obtain ⟨kd, md, us, gr, lk, ti, dt, tg, ls, pa⟩ := m
    have HR : Hid ((((kd.toNat : Nat) : Int) == 2) = R) := by
      show _ = R
      rw [uh HD, Bool.true_and]
      exact kd_eq kd 2
    generalize sizeP (⟨kd, md, us, gr, lk, ti, dt, tg, ls, pa⟩ : Nd) = sz at *
    clear HD HV hq
    unfold vStat at HS
    simp only at HS
    go_enter Tryz.func120, Tryz.ntmps120
    go_wp2_with fail
    refine (uh HS _ (uh HB1 _)).mono ?_
    rintro e w1 ⟨rfl, hb⟩
    have HB2 := hide ((uh HB1 _).trans (hb.mono (uh HB1 _).size))
    clear hb
    go_wp2
    go_ret
    exact ⟨ret_b (uh HR), (uh HB2).alloc (uh HB2).size _⟩
set_option maxRecDepth 100000 in
set_option maxHeartbeats 1000000 in
theorem pCheck_any (a : Option Addr) (n cap : Nat) (ns : List Nd) (now : Int) (e : Ev) (w : World) (h : Ng w a n cap ns) (hs : Sm ns) :
    Calls Tryz.prog 48 #[.agg #[.slice a n cap, .int .i64 now], .agg (ea e)] w fun r w' => r = .returned (.bool (someP now ns e)) ∧ Below w.heap.size w w' := by
  have HD : Hid (∀ W, Below w.heap.size w W → Calls Tryz.prog 120 #[.agg #[.slice a n cap, .int .i64 now], .int .i64 e.dir] W fun r w' => r = .returned (.bool (dirAt now ns e.dir)) ∧ Below W.heap.size W w') := fun W hW => pIsDir_any a n cap ns now e.dir W (h.below hW) hs
  have HO1 := hide (fun W => pIsOwner_any e.user W)
  have HO2 := hide (fun W => pIsOwner_any e.group W)
  have HR : Hid (someP now ns e = (ownerP e.user && ownerP e.group && decide (0 ≤ e.mask) && decide (e.mask ≤ 511) && dirAt now ns e.dir)) := rfl
  obtain ⟨R, hRe⟩ : ∃ R, R = someP now ns e := ⟨_, rfl⟩
  rw [← hRe] at HR ⊢
  obtain ⟨D, hDe⟩ : ∃ D, D = dirAt now ns e.dir := ⟨_, rfl⟩
  rw [← hDe] at HD HR
  obtain ⟨O1, hO1⟩ : ∃ O, O = ownerP e.user := ⟨_, rfl⟩
  obtain ⟨O2, hO2⟩ : ∃ O, O = ownerP e.group := ⟨_, rfl⟩
  rw [← hO1] at HO1 HR
  rw [← hO2] at HO2 HR
  clear hRe hDe hO1 hO2 h
  obtain ⟨u, g, mk, dr⟩ := e
  unfold ea
  simp only at HD HO1 HO2 HR ⊢
  have HB2 : Hid (Below w.heap.size w ((w.alloc (.cells #[.slice a n cap, .int .i64 now] 24)).alloc (.cells #[.int .i64 u, .int .i64 g, .int .i64 mk, .int .i64 dr] 32))) := b2 w _ _
  cases O1 with
  | false =>
    obtain rfl : R = false := by rw [uh HR]; rfl
    clear HR HD HO2
    go_enter Tryz.func48, Tryz.ntmps48
    go_wp2_with (go_at_call 119; refine (uh HO1 _).mono ?_; rintro e w' ⟨rfl, rfl⟩)
    go_ret
    exact ⟨rfl, uh HB2⟩
  | true =>
  cases O2 with
  | false =>
    obtain rfl : R = false := by rw [uh HR]; rfl
    clear HR HD
    go_enter Tryz.func48, Tryz.ntmps48
    go_wp2_with fail
    refine (uh HO1 _).mono ?_
    rintro e w' ⟨rfl, rfl⟩
    go_wp2_with fail
    refine (uh HO2 _).mono ?_
    rintro e w' ⟨rfl, rfl⟩
    go_wp2_with fail
    go_ret
    exact ⟨rfl, uh HB2⟩
  | true =>
  by_cases a1 : 0 ≤ mk
  case neg =>
    obtain rfl : R = false := by rw [uh HR]; simp [a1]
    clear HR HD
    go_enter Tryz.func48, Tryz.ntmps48
    go_wp2_with fail
    refine (uh HO1 _).mono ?_
    rintro e w' ⟨rfl, rfl⟩
    go_wp2_with fail
    refine (uh HO2 _).mono ?_
    rintro e w' ⟨rfl, rfl⟩
    go_wp2_with fail
    go_ret
    exact ⟨rfl, uh HB2⟩
  by_cases a2 : mk ≤ 511
  case neg =>
    obtain rfl : R = false := by rw [uh HR]; simp [a2]
    clear HR HD
    go_enter Tryz.func48, Tryz.ntmps48
    go_wp2_with fail
    refine (uh HO1 _).mono ?_
    rintro e w' ⟨rfl, rfl⟩
    go_wp2_with fail
    refine (uh HO2 _).mono ?_
    rintro e w' ⟨rfl, rfl⟩
    go_wp2_with fail
    go_ret
    exact ⟨rfl, uh HB2⟩
  obtain rfl : R = D := by rw [uh HR]; simp [a1, a2]
  clear HR
  go_enter Tryz.func48, Tryz.ntmps48
  go_wp2_with fail
  refine (uh HO1 _).mono ?_
  rintro e w' ⟨rfl, rfl⟩
  go_wp2_with fail
  refine (uh HO2 _).mono ?_
  rintro e w' ⟨rfl, rfl⟩
  go_wp2_with fail
  refine (uh HD _ (uh HB2)).mono ?_
  rintro e w1 ⟨rfl, hb⟩
  have HB3 := hide ((uh HB2).trans (hb.mono (uh HB2).size))
  clear hb
  go_wp2_with fail
  go_ret
  exact ⟨rfl, uh HB3⟩
end Go.Proofs.YtidhceebafmlkaaGreatDoor.Pm

namespace Go.Proofs.YtidhceebafmlkaaGreatDoor.Pt
open Go.RowKit Cu Tr Pm
def findA (now : Int) (ns : List Nd) (e : Ev) (s : ByteArray) (follow : Bool) : Pl × Int := if someP now ns e = false then bad 1 else inPath ns e s follow
theorem index_zero (s : ByteArray) : decide (0 ≤ Lib.indexByte s.data.toList 0) = hasB s 0 := by
  unfold hasB
  rw [decide_eq_decide]
  have hge := Lib.indexByte_ge s.data.toList 0
  constructor
  · intro h
    obtain ⟨o, ho⟩ : ∃ o : Nat, Lib.indexByte s.data.toList 0 = o := ⟨(Lib.indexByte s.data.toList 0).toNat, by omega⟩
    have := (Lib.indexByte_some ho).1
    exact List.mem_of_getElem? this
  · intro h
    refine Decidable.byContradiction fun hn => ?_
    have e : Lib.indexByte s.data.toList 0 = -1 := by omega
    obtain ⟨k, hk, hx⟩ := List.getElem_of_mem h
    exact Lib.indexByte_none e k (by rw [← hx]; exact List.getElem?_eq_getElem hk)
theorem some_dir {now : Int} {ns : List Nd} {e : Ev} (h : someP now ns e = true) : checkP now ns = true ∧ ∃ d : Nat, e.dir = (d : Int) ∧ Dr ns d := by
  unfold someP dirAt nodeP at h
  simp only [Bool.and_eq_true, decide_eq_true_eq] at h
  obtain ⟨_, ⟨⟨⟨⟨h1, h2⟩, h3⟩, _⟩, h5⟩⟩ := h
  exact ⟨h1, e.dir.toNat, by omega, by omega, by omega, h5⟩
structure Fs (w W : World) (cT cE : Array Value) : Prop where
  below : Below w.heap.size w W
  tree : W.heap[w.heap.size]? = some (.cells cT 24)
  env : W.heap[w.heap.size + 1]? = some (.cells cE 32)
  room : W.heap[w.heap.size + 2]? = some (.cells zPlace tyPlace)
theorem Fs.step {w W W' : World} {cT cE : Array Value} (h : Fs w W cT cE) (hb : Below W.heap.size W W') : Fs w W' cT cE :=
  ⟨h.below.trans (hb.mono h.below.size), (hb.block _ (Array.getElem?_eq_some_iff.1 h.tree).1).trans h.tree, (hb.block _ (Array.getElem?_eq_some_iff.1 h.env).1).trans h.env, (hb.block _ (Array.getElem?_eq_some_iff.1 h.room).1).trans h.room⟩
theorem fs_first (w : World) (cT cE : Array Value) : Fs w (((w.alloc (.cells cT 24)).alloc (.cells cE 32)).alloc (.cells zPlace tyPlace)) cT cE := by
  have z1 : (w.alloc (.cells cT 24)).heap.size = w.heap.size + 1 := World.size_alloc _ _
  have k1 := heap_alloc_new w (.cells cT 24)
  have b1 : Below w.heap.size w (w.alloc (.cells cT 24)) := (Below.refl _ _).alloc (Nat.le_refl _) _
  generalize w.alloc (.cells cT 24) = w1 at *
  have z2 : (w1.alloc (.cells cE 32)).heap.size = w1.heap.size + 1 := World.size_alloc _ _
  have k2 := heap_alloc_new w1 (.cells cE 32)
  have b2 : Below w1.heap.size w1 (w1.alloc (.cells cE 32)) := (Below.refl _ _).alloc (Nat.le_refl _) _
  generalize w1.alloc (.cells cE 32) = w2 at *
  have k3 := heap_alloc_new w2 (.cells zPlace tyPlace)
  have b3 : Below w2.heap.size w2 (w2.alloc (.cells zPlace tyPlace)) := (Below.refl _ _).alloc (Nat.le_refl _) _
  generalize w2.alloc (.cells zPlace tyPlace) = w3 at *
  rw [z1] at k2
  rw [z2, z1] at k3
  exact ⟨(b1.trans (b2.mono (by omega))).trans (b3.mono (by omega)), (b3.block _ (by omega)).trans ((b2.block _ (by omega)).trans k1), (b3.block _ (by omega)).trans k2, k3⟩
theorem Fs.cells {w W : World} {t0 t1 e0 e1 e2 e3 : Value} (h : Fs w W #[t0, t1] #[e0, e1, e2, e3]) : W.cell? ⟨w.heap.size, 0, none⟩ = some t0 ∧ W.cell? ⟨w.heap.size, 1, none⟩ = some t1 ∧ W.cell? ⟨w.heap.size + 1, 0, none⟩ = some e0 ∧ W.cell? ⟨w.heap.size + 1, 1, none⟩ = some e1 ∧ W.cell? ⟨w.heap.size + 1, 2, none⟩ = some e2 ∧ W.cell? ⟨w.heap.size + 1, 3, none⟩ = some e3 ∧
    W.cell? ⟨w.heap.size + 2, 0, none⟩ = some (.int .i64 0) ∧ W.cell? ⟨w.heap.size + 2, 1, none⟩ = some (.string ⟨#[]⟩) ∧ W.cell? ⟨w.heap.size + 2, 2, none⟩ = some (.int .i64 0) ∧ W.cell? ⟨w.heap.size + 2, 3, none⟩ = some (.bool false) ∧ W.frozen? ⟨w.heap.size + 2, 0, none⟩ = false ∧ W.frozen? ⟨w.heap.size + 2, 1, none⟩ = false ∧ W.frozen? ⟨w.heap.size + 2, 2, none⟩ = false ∧ W.frozen? ⟨w.heap.size + 2, 3, none⟩ = false := by
  refine ⟨?_, ?_, ?_, ?_, ?_, ?_, ?_, ?_, ?_, ?_, ?_, ?_, ?_, ?_⟩
  iterate 2 (rw [cell_of_row _ _ _ _ _ _ h.tree]; rfl)
  iterate 4 (rw [cell_of_row _ _ _ _ _ _ h.env]; rfl)
  iterate 4 (rw [cell_of_row _ _ _ _ _ _ h.room]; rfl)
  all_goals simp [World.frozen?, h.room]
set_option maxRecDepth 100000 in
set_option maxHeartbeats 2000000 in
theorem findP_any (a : Option Addr) (n cap : Nat) (ns : List Nd) (now : Int) (e : Ev) (s : ByteArray) (follow : Bool) (w : World) (h : Ng w a n cap ns) (hs : Sm ns) (hsz : s.size ≤ 1000000000) :
    Calls Tryz.prog 121 #[.agg #[.slice a n cap, .int .i64 now], .agg (ea e), .string s, .bool follow] w fun r w' => r = .returned (.tuple #[.agg (pv (findA now ns e s follow).1), .int .i64 (findA now ns e s follow).2]) ∧ Below w.heap.size w w' := by
  have HC : Hid (∀ W, Below w.heap.size w W → Calls Tryz.prog 48 #[.agg #[.slice a n cap, .int .i64 now], .agg (ea e)] W fun r w' => r = .returned (.bool (someP now ns e)) ∧ Below W.heap.size W w') := fun W hW => pCheck_any a n cap ns now e W (h.below hW) hs
  obtain ⟨R, HR⟩ : ∃ R, Hid (R = findA now ns e s follow) := ⟨_, rfl⟩
  rw [← uh HR]
  have HRe : Hid (R = if someP now ns e = false then bad 1 else inPath ns e s follow) := uh HR
  clear HR
  have HG := hide h
  clear h hs
  cases hq : someP now ns e with
  | false =>
    rw [hq] at HC HRe
    obtain rfl : R = bad 1 := uh HRe
    clear HRe hq HG
    obtain ⟨u, g, mk, dr⟩ := e
    unfold ea at HC ⊢
    simp only at HC ⊢
    have F0 := hide (fs_first w #[.slice a n cap, .int .i64 now] #[.int .i64 u, .int .i64 g, .int .i64 mk, .int .i64 dr])
    go_enter Tryz.func121, Tryz.ntmps121
    go_wp2_with fail
    refine (uh HC _ (uh F0).below).mono ?_
    rintro r w1 ⟨rfl, b1⟩
    have F1 := hide ((uh F0).step b1)
    clear b1 F0 HC
    obtain ⟨-, -, -, -, -, -, d0, d1, d2, d3, f0, f1, f2, f3⟩ := (uh F1).cells
    have HF := hide (set4_below (uh F1).below (w.heap.size + 2) (by omega) (.int .i64 0) (.string ⟨#[]⟩) (.int .i64 0) (.bool false))
    clear F1
    go_wp2_with fail
    refine bodyPost_ret (v := .tuple #[.agg (pv pz), .int .i64 1]) (by simp [results, Tryz.results121, go_sem, d0, d1, d2, d3]) rfl ⟨rfl, uh HF⟩
  | true =>
    rw [hq] at HC HRe
    obtain ⟨hck, d, hed, hdr⟩ := some_dir hq
    obtain ⟨u, g, mk, dr⟩ := e
    simp only at hed
    subst hed
    rw [if_neg (by decide)] at HRe
    unfold ea at HC ⊢
    simp only at HC ⊢
    clear hq
    have F0 := hide (fs_first w #[.slice a n cap, .int .i64 now] #[.int .i64 u, .int .i64 g, .int .i64 mk, .int .i64 d])
    unfold inPath at HRe
    by_cases h0 : s.size = 0
    · rw [if_pos h0] at HRe
      obtain rfl : R = bad 6 := uh HRe
      have hq := (s_beq s).trans (decide_eq_true (none_of h0))
      clear HRe HG h0
      go_enter Tryz.func121, Tryz.ntmps121
      go_wp2_with fail
      refine (uh HC _ (uh F0).below).mono ?_
      rintro r w1 ⟨rfl, b1⟩
      have F1 := hide ((uh F0).step b1)
      clear b1 F0 HC
      obtain ⟨-, -, -, -, -, -, d0, d1, d2, d3, f0, f1, f2, f3⟩ := (uh F1).cells
      have HF := hide (set4_below (uh F1).below (w.heap.size + 2) (by omega) (.int .i64 0) (.string ⟨#[]⟩) (.int .i64 0) (.bool false))
      clear F1
      go_wp2_with fail
      refine bodyPost_ret (v := .tuple #[.agg (pv pz), .int .i64 6]) (by simp [results, Tryz.results121, go_sem, d0, d1, d2, d3]) rfl ⟨rfl, uh HF⟩
    rw [if_neg h0] at HRe
    have hq : (s.toList == []) = false := (s_beq s).trans (decide_eq_false (fun e => h0 (by have := congrArg List.length e; exact this)))
    have HX : Hid (∀ W, Calls Tryz.prog 182 #[.string s, .int .u8 0] W fun r w' => r = .returned (.int .i64 (Lib.indexByte s.data.toList 0)) ∧ w' = W) := fun W => Tryz.strings_IndexByte s 0 W
    have hix := index_zero s
    generalize Lib.indexByte s.data.toList 0 = ix at *
    by_cases h1 : 1024 < s.size
    · rw [if_pos (by simp [badP, h1])] at HRe
      obtain rfl : R = bad 13 := uh HRe
      have h1' : (1024 : Int) < (s.size : Int) := by omega
      clear HRe HG h0 h1
      go_enter Tryz.func121, Tryz.ntmps121
      go_wp2_with fail
      refine (uh HC _ (uh F0).below).mono ?_
      rintro r w1 ⟨rfl, b1⟩
      have F1 := hide ((uh F0).step b1)
      clear b1 F0 HC
      obtain ⟨-, -, -, -, -, -, d0, d1, d2, d3, f0, f1, f2, f3⟩ := (uh F1).cells
      have HF := hide (set4_below (uh F1).below (w.heap.size + 2) (by omega) (.int .i64 0) (.string ⟨#[]⟩) (.int .i64 0) (.bool false))
      clear F1
      go_wp2_with fail
      refine bodyPost_ret (v := .tuple #[.agg (pv pz), .int .i64 13]) (by simp [results, Tryz.results121, go_sem, d0, d1, d2, d3]) rfl ⟨rfl, uh HF⟩
    have h1' : ¬ (1024 : Int) < (s.size : Int) := by omega
    cases hb : hasB s 0 with
    | true =>
      rw [hb] at hix
      rw [if_pos (by simp [badP, hb])] at HRe
      obtain rfl : R = bad 13 := uh HRe
      have hix' : 0 ≤ ix := by simpa using hix
      clear HRe HG h0 h1 hb hix
      go_enter Tryz.func121, Tryz.ntmps121
      go_wp2_with fail
      refine (uh HC _ (uh F0).below).mono ?_
      rintro r w1 ⟨rfl, b1⟩
      have F1 := hide ((uh F0).step b1)
      clear b1 F0 HC
      obtain ⟨-, -, -, -, -, -, d0, d1, d2, d3, f0, f1, f2, f3⟩ := (uh F1).cells
      have HF := hide (set4_below (uh F1).below (w.heap.size + 2) (by omega) (.int .i64 0) (.string ⟨#[]⟩) (.int .i64 0) (.bool false))
      clear F1
      go_wp2_with (go_at_call 182; refine (uh HX _).mono ?_; rintro r1 w3 ⟨rfl, hw⟩; rw [hw]; clear hw w3)
      refine bodyPost_ret (v := .tuple #[.agg (pv pz), .int .i64 13]) (by simp [results, Tryz.results121, go_sem, d0, d1, d2, d3]) rfl ⟨rfl, uh HF⟩
    | false =>
      rw [hb] at hix
      rw [if_neg (by simp [badP, hb, h1])] at HRe
      have hix' : ¬ 0 ≤ ix := by simpa using hix
      have HDr := hide hdr
      have HK := hide hck
      clear h0 hb hix hdr hck
      simp only [Int.toNat_natCast] at HRe
      have hpl : (partsP s ++ []).length ≤ 2000 := by rw [List.append_nil]; have := parts_len s; omega
      go_enter Tryz.func121, Tryz.ntmps121
      go_wp2_with fail
      refine (uh HC _ (uh F0).below).mono ?_
      rintro r w1 ⟨rfl, b1⟩
      have F1 := hide ((uh F0).step b1)
      clear b1 F0 HC
      obtain ⟨t0, t1, e0, e1, e2, e3, -, -, -, -, -, -, -, -⟩ := (uh F1).cells
      go_wp2_with (go_at_call 182; refine (uh HX _).mono ?_; rintro r1 w3 ⟨rfl, hw⟩; rw [hw]; clear hw w3)
      have ht0 := heap_alloc_new w1 (.cells (trA a n cap ⟨u, g, mk, d⟩ d (.slice none 0 0) false) tyTrip)
      have HT := hide (turn_any w1.heap.size a n cap ⟨u, g, mk, d⟩ d (.slice none 0 0) false s none 0 0 [] (w1.alloc (.cells (trA a n cap ⟨u, g, mk, d⟩ d (.slice none 0 0) false) tyTrip)) ht0 ⟨rfl, Nat.le_refl _, fun _ => ⟨rfl, rfl⟩, .inl rfl⟩ (by omega) (by omega))
      have HA : Hid (Below w1.heap.size w1 (w1.alloc (.cells (trA a n cap ⟨u, g, mk, d⟩ d (.slice none 0 0) false) tyTrip))) := (Below.refl _ _).alloc (Nat.le_refl _) _
      clear ht0
      refine (uh HT).mono ?_
      rintro r2 w3 ⟨rfl, ht3⟩
      obtain ⟨pa, pc, hp1, hp2⟩ := ht3.trip
      have hdr2 : Dr ns (if begins s then 1 else d) := by
        split
        · exact dr_root (uh HK)
        · exact uh HDr
      have HL := hide (lead_any now w1 w1.heap.size a n cap ns ⟨u, g, mk, d⟩ (if begins s then 1 else d) (false || (([] : List ByteArray).isEmpty && ends s)) pa pc (partsP s ++ []) follow w3 ((uh HG).below (uh F1).below) (uh HK) hdr2 (ht3.but.below (uh HA) (Nat.le_refl _) (Nat.le_refl _)) (Nat.le_refl _) hp1 hp2 hpl)
      have hRR : leadP ns ⟨u, g, mk, d⟩ follow 17 (if begins s then 1 else d) (partsP s ++ []) (false || (([] : List ByteArray).isEmpty && ends s)) = R := by rw [List.append_nil]; exact (uh HRe).symm
      rw [hRR] at HL
      clear hp1 hp2 ht3 HT hdr2 hRR HRe HA HG HK HDr t0 t1 e0 e1 e2 e3 hpl
      obtain ⟨⟨rd, rn, ro, rs⟩, re⟩ := R
      simp only at HL ⊢
      go_wp2_with fail
      refine (uh HL).mono ?_
      rintro r4 w4 ⟨rfl, b4⟩
      have F4 := hide ((uh F1).step b4)
      clear b4 F1 HL
      obtain ⟨-, -, -, -, -, -, d0, d1, d2, d3, f0, f1, f2, f3⟩ := (uh F4).cells
      have HF := hide (set4_below (uh F4).below (w.heap.size + 2) (by omega) (.int .i64 rd) (.string rn) (.int .i64 ro) (.bool rs))
      clear F4
      go_wp2_with fail
      refine bodyPost_ret (v := .tuple #[.agg #[.int .i64 rd, .string rn, .int .i64 ro, .bool rs], .int .i64 re]) (by simp [results, Tryz.results121, go_sem, d0, d1, d2, d3]) rfl ⟨rfl, uh HF⟩
end Go.Proofs.YtidhceebafmlkaaGreatDoor.Pt
