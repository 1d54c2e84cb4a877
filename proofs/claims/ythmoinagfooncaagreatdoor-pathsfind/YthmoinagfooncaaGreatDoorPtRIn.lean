/- Where the document's paths lead. -/
import Derived.Test.YthmoinagfooncaaGreatDoorPtRParts
import Derived.Test.YthmoinagfooncaaGreatDoorPtFind
import Derived.Test.YthmoinagfooncaaGreatDoorTrRFind
import Derived.Deep.DeepCutAuto
import Derived.Deep.CutBlock
namespace Go.Proofs.YthmoinagfooncaaGreatDoor.Pt
open Go.RowKit Go.Proofs.YthmoinagfooncaaGreatDoor.Cu Go.Proofs.YthmoinagfooncaaGreatDoor.Tr Go.Proofs.YthmoinagfooncaaGreatDoor.Pm

abbrev tyRPl : TypeId := 37
/-- the boxes of In -/
structure Fr (w W : World) (cT cE : Array Value) : Prop where
  below : Below w.heap.size w W
  tree : W.heap[w.heap.size]? = some (.cells cT 24)
  env : W.heap[w.heap.size + 1]? = some (.cells cE 26)
  room : W.heap[w.heap.size + 2]? = some (.cells zPlace tyRPl)
theorem Fr.step {w W W' : World} {cT cE : Array Value} (h : Fr w W cT cE) (hb : Below W.heap.size W W') : Fr w W' cT cE :=
  ⟨h.below.trans (hb.mono h.below.size), (hb.block _ (Array.getElem?_eq_some_iff.1 h.tree).1).trans h.tree, (hb.block _ (Array.getElem?_eq_some_iff.1 h.env).1).trans h.env, (hb.block _ (Array.getElem?_eq_some_iff.1 h.room).1).trans h.room⟩
theorem fr_first (w : World) (cT cE : Array Value) : Fr w (((w.alloc (.cells cT 24)).alloc (.cells cE 26)).alloc (.cells zPlace tyRPl)) cT cE := by
  have z1 : (w.alloc (.cells cT 24)).heap.size = w.heap.size + 1 := World.size_alloc _ _
  have k1 := heap_alloc_new w (.cells cT 24)
  have b1 : Below w.heap.size w (w.alloc (.cells cT 24)) := (Below.refl _ _).alloc (Nat.le_refl _) _
  generalize w.alloc (.cells cT 24) = w1 at *
  have z2 : (w1.alloc (.cells cE 26)).heap.size = w1.heap.size + 1 := World.size_alloc _ _
  have k2 := heap_alloc_new w1 (.cells cE 26)
  have b2 : Below w1.heap.size w1 (w1.alloc (.cells cE 26)) := (Below.refl _ _).alloc (Nat.le_refl _) _
  generalize w1.alloc (.cells cE 26) = w2 at *
  have k3 := heap_alloc_new w2 (.cells zPlace tyRPl)
  have b3 : Below w2.heap.size w2 (w2.alloc (.cells zPlace tyRPl)) := (Below.refl _ _).alloc (Nat.le_refl _) _
  generalize w2.alloc (.cells zPlace tyRPl) = w3 at *
  rw [z1] at k2
  rw [z2, z1] at k3
  exact ⟨(b1.trans (b2.mono (by omega))).trans (b3.mono (by omega)), (b3.block _ (by omega)).trans ((b2.block _ (by omega)).trans k1), (b3.block _ (by omega)).trans k2, k3⟩
theorem Fr.cells {w W : World} {t0 t1 e0 e1 e2 e3 : Value} (h : Fr w W #[t0, t1] #[e0, e1, e2, e3]) : W.cell? ⟨w.heap.size, 0, none⟩ = some t0 ∧ W.cell? ⟨w.heap.size, 1, none⟩ = some t1 ∧ W.cell? ⟨w.heap.size + 1, 0, none⟩ = some e0 ∧ W.cell? ⟨w.heap.size + 1, 1, none⟩ = some e1 ∧ W.cell? ⟨w.heap.size + 1, 2, none⟩ = some e2 ∧ W.cell? ⟨w.heap.size + 1, 3, none⟩ = some e3 ∧
    W.cell? ⟨w.heap.size + 2, 0, none⟩ = some (.int .i64 0) ∧ W.cell? ⟨w.heap.size + 2, 1, none⟩ = some (.string ⟨#[]⟩) ∧ W.cell? ⟨w.heap.size + 2, 2, none⟩ = some (.int .i64 0) ∧ W.cell? ⟨w.heap.size + 2, 3, none⟩ = some (.bool false) ∧ W.frozen? ⟨w.heap.size + 2, 0, none⟩ = false ∧ W.frozen? ⟨w.heap.size + 2, 1, none⟩ = false ∧ W.frozen? ⟨w.heap.size + 2, 2, none⟩ = false ∧ W.frozen? ⟨w.heap.size + 2, 3, none⟩ = false := by
  refine ⟨?_, ?_, ?_, ?_, ?_, ?_, ?_, ?_, ?_, ?_, ?_, ?_, ?_, ?_⟩
  iterate 2 (rw [cell_of_row _ _ _ _ _ _ h.tree]; rfl)
  iterate 4 (rw [cell_of_row _ _ _ _ _ _ h.env]; rfl)
  iterate 4 (rw [cell_of_row _ _ _ _ _ _ h.room]; rfl)
  all_goals simp [World.frozen?, h.room]
theorem Fr.drew {w W : World} {cT cE : Array Value} (h : Fr w W cT cE) : Fr w W.drew cT cE := ⟨⟨h.below.os, h.below.tape, h.below.output, h.below.size, h.below.block⟩, h.tree, h.env, h.room⟩
theorem below_drew {N : Nat} {w W : World} (h : Below N w W) : Below N w W.drew := ⟨h.os, h.tape, h.output, h.size, h.block⟩
theorem Tx.drew {W : World} {a : Option Addr} {n cap : Nat} {ss : List ByteArray} (h : Tx W a n cap ss) : Tx W.drew a n cap ss := ⟨h.len, h.le, h.nil, h.cells⟩
theorem below_new' (w : World) (o : Obj) : Below w.heap.size w (w.alloc o) := (Below.refl _ _).alloc (Nat.le_refl _) _
theorem lt1' {W : World} {b : Nat} {o : Obj} (h : W.heap[b]? = some o) : b < W.heap.size := (Array.getElem?_eq_some_iff.1 h).1
theorem tx_own {w : World} {base : Nat} {pa : Option Addr} {pc : Nat} {ss : List ByteArray} (h : w.ownsRow base tyStr 1 (.slice pa ss.length pc) ss.length (ss.map Value.string)) : Tx w pa ss.length pc ss := by
  obtain ⟨a, c, hv, ht⟩ := tx_of_owns h
  injection hv with h1 _ h3
  subst h1 h3
  exact ht
theorem tx_own2 {w : World} {base : Nat} {va : Option Addr} {vc L : Nat} {A l : List ByteArray} (hL : L = l.length) (h : w.ownsRow base tyStr 1 (.slice va (A.length + L) vc) (A.length + L) (A.map Value.string ++ l.map Value.string)) : Tx w va (A ++ l).length vc (A ++ l) := by
  refine tx_own (base := base) ?_
  rw [List.length_append, List.map_append, ← hL]; exact h
theorem tx_none {W : World} {ra : Option Addr} {rc : Nat} (h : ra = none → rc = 0) : Tx W ra 0 rc [] := ⟨rfl, Nat.zero_le _, fun e => ⟨rfl, h e⟩, .inl rfl⟩
theorem tx_tail {W : World} {pb po lc : Nat} {s : ByteArray} {l : List ByteArray} (h : Tx W (some ⟨pb, po, none⟩) (s :: l).length lc (s :: l)) :
    (l.length = 0 → Tx W (if lc = 1 then some ⟨pb, po, none⟩ else some ⟨pb, po + 1, none⟩) 0 (lc - 1) l) ∧ (0 < l.length → Tx W (some ⟨pb, po + 1, none⟩) l.length (lc - 1) l) := by
  have hle := h.le
  have e0 : (s :: l).length = l.length + 1 := rfl
  refine ⟨fun h0 => ⟨h0, Nat.zero_le _, by split <;> simp, .inl rfl⟩, fun h0 => ⟨rfl, by omega, by simp, .inr ?_⟩⟩
  rcases h.cells with h1 | ⟨b, off, e, hb, hc⟩
  · simp at h1
  · injection e with e
    injection e with e1 e2 _
    subst e1 e2
    refine ⟨pb, po + 1, rfl, hb, fun i hi => ?_⟩
    rw [show po + 1 + i = po + (i + 1) by omega, hc (i + 1) (by omega)]
    simp [List.getD]
/-- what a part does that is none of those -/
theorem goP_node {now : Int} {ns : List Nd} {e : Ev} {follow : Bool} {next : Nat → List ByteArray → Bool → Pl × Int} {dirs : Bool} {d : Nat} {s : ByteArray} {l : List ByteArray} (hc : checkP now ns = true) (hd : Dr ns d) (h1 : mayP (nd ns d) e 1 = true) (h2 : ¬ 64 < s.size) (h3 : ¬ s = dot) (h4 : ¬ s = dots) :
    (findP (nd ns d).list s = 0 ∧ goP ns e follow next dirs d (s :: l) = if l = [] then (⟨d, s, 0, dirs⟩, 0) else bad 6)
    ∨ (∃ m : Nat, findP (nd ns d).list s = (m : Int) ∧ 0 < m ∧ m < ns.length ∧
        (((nd ns m).kind = 1 ∧ goP ns e follow next dirs d (s :: l) = if l ≠ [] ∨ dirs = true then bad 9 else (⟨d, s, m, dirs⟩, 0))
        ∨ ((nd ns m).kind = 2 ∧ Dr ns m ∧ goP ns e follow next dirs d (s :: l) = if l = [] then (⟨d, s, m, dirs⟩, 0) else goP ns e follow next dirs m l)
        ∨ ((nd ns m).kind = 3 ∧ targetP (nd ns m).target = true ∧ goP ns e follow next dirs d (s :: l) = if l ≠ [] ∨ follow = true ∨ dirs = true then next (if begins (nd ns m).target then 1 else d) (partsP (nd ns m).target ++ l) (dirs || (l.isEmpty && ends (nd ns m).target)) else (⟨d, s, m, dirs⟩, 0)))) := by
  have ht : takeP ns e d s = (findP (nd ns d).list s, 0) := by
    unfold takeP
    rw [if_neg (by rw [h1]; decide), if_neg h2, if_neg h3, if_neg h4]
  have hds : dotsP s = false := by simp [dotsP, h3, h4]
  rcases goP_cases (e := e) (follow := follow) (next := next) (dirs := dirs) (s := s) (l := l) hc hd with ⟨k, hk, h, _⟩ | ⟨x, _, _, h, _⟩ | ⟨h, _, h'⟩ | ⟨m, h, hm, _, h'⟩
  · rw [ht] at h
    injection h with _ h
    rcases hk with rfl | rfl <;> exact absurd h (by decide)
  · rw [hds] at h; cases h
  · rw [ht] at h
    injection h with h _
    exact .inl ⟨h, h'⟩
  · rw [ht] at h
    injection h with h _
    refine .inr ⟨m, h, ?_, hm, h'⟩
    refine Nat.pos_of_ne_zero fun e0 => ?_
    have hz := (checkP_parts hc).2.2.1
    rw [e0] at h'
    rcases h' with ⟨q, _⟩ | ⟨q, _⟩ | ⟨q, _⟩ <;> (rw [hz] at q; exact absurd q (by decide))
theorem kind_lists {n : Nd} (h : kindP n = true) : listP n.list = true ∨ n.list = [] := by
  unfold kindP at h
  split at h
  · right
    unfold freeP noListP at h
    simp only [Bool.and_eq_true, decide_eq_true_eq] at h
    exact List.eq_nil_of_length_eq_zero h.2.1
  split at h
  · right
    unfold fileP noListP at h
    simp only [Bool.and_eq_true, decide_eq_true_eq] at h
    exact List.eq_nil_of_length_eq_zero h.2.1
  split at h
  · left
    unfold dirP at h
    simp only [Bool.and_eq_true] at h
    exact h.1.1.2
  split at h
  · right
    unfold linkP noListP at h
    simp only [Bool.and_eq_true, decide_eq_true_eq] at h
    exact List.eq_nil_of_length_eq_zero h.2.1
  · cases h
theorem lead_succ (ns : List Nd) (e : Ev) (follow : Bool) {h m : Nat} (hm : h + (m + 1) = 17) (d : Nat) (l : List ByteArray) (dirs : Bool) : leadP ns e follow (17 - h) d l dirs = goP ns e follow (leadP ns e follow m) dirs d l := by
  rw [show 17 - h = m + 1 by omega]; rfl
set_option maxRecDepth 100000 in
set_option maxHeartbeats 4000000 in
theorem rIn_any (a : Option Addr) (n cap : Nat) (ns : List Nd) (now : Int) (e : Ev) (d0 : Nat) (p : ByteArray) (follow : Bool) (w : World) (h : Ng w a n cap ns) (hck : checkP now ns = true) (hed : e.dir = (d0 : Int)) (hd0 : Dr ns d0) (hsz : p.size ≤ 1000000) :
    Calls Tryz.prog 21 #[.agg #[.slice a n cap, .int .i64 now], .agg (ea e), .string p, .bool follow] w fun r w' => r = .returned (.tuple #[.agg (pv (inPath ns e p follow).1), .int .i64 (inPath ns e p follow).2]) ∧ Below w.heap.size w w' := by
  obtain ⟨R, HRe⟩ : ∃ R, Hid (R = inPath ns e p follow) := ⟨_, rfl⟩
  rw [← unhide HRe]
  have hlen := h.len
  have hn0 : 0 < n := by rw [← hlen]; have := hd0.2.1; omega
  obtain ⟨nb, no, rfl, hnb, hcs⟩ : ∃ b off, a = some ⟨b, off, none⟩ ∧ b < w.heap.size ∧ ∀ i, i < n → Nx w b (off + i * 10) (nd ns i) := by
    rcases h.cells with h0 | ⟨b, off, h1, h2, h3⟩
    · omega
    · exact ⟨b, off, h1, h2, h3⟩
  have HX := hide hcs
  have HLn := hide hlen
  have HK := hide hck
  have HD0 := hide hd0
  have HI : Hid (∀ (W : World) (d : Nat) (s : ByteArray), Below w.heap.size w W → Dr ns d → Calls Tryz.prog 42 #[.agg #[.slice (some ⟨nb, no, none⟩) n cap, .int .i64 now], .int .i64 d, .string s] W fun r w' => r = .returned (.int .i64 (findP (nd ns d).list s)) ∧ Below W.heap.size W w') := fun W d s hW hd => by
    have q := rin_any (some ⟨nb, no, none⟩) n cap ns now d s W (h.below hW) (fun i => by
      by_cases hi : i < ns.length
      · rcases kind_lists ((checkP_parts hck).2.2.2.2.2.1 i hi) with q | q
        · unfold listP at q
          simp only [Bool.and_eq_true, decide_eq_true_eq] at q
          omega
        · rw [q]; simp
      · have e : nd ns i = nz := by unfold nd; simp [List.getD, List.getElem?_eq_none (Nat.le_of_not_lt hi)]
        rw [e]; simp)
    have e : inP ns (d : Int) s = findP (nd ns d).list s := by
      unfold inP
      rw [if_neg (by have := hd.1; have := hd.2.1; omega), Int.toNat_natCast]
    rw [e] at q; exact q
  clear h hck hcs hlen hd0
  obtain ⟨u, g, mk, dr⟩ := e
  simp only at hed
  subst hed
  unfold ea
  simp only
  have HM : Hid (∀ (x : Nd) (dv lv : Value) (W : World), Calls Tryz.prog 41 #[.agg (na x dv lv), .agg #[.int .i64 u, .int .i64 g, .int .i64 mk, .int .i64 d0], .int .i64 1] W fun r w' => r = .returned (.bool (mayP x ⟨u, g, mk, d0⟩ 1)) ∧ Below W.heap.size W w') := fun x dv lv W => rmay_any x dv lv ⟨u, g, mk, d0⟩ 1 W
  have F0 := hide (fr_first w #[.slice (some ⟨nb, no, none⟩) n cap, .int .i64 now] #[.int .i64 u, .int .i64 g, .int .i64 mk, .int .i64 d0])
  unfold inPath at HRe
  simp only [Int.toNat_natCast] at HRe
  by_cases h0 : p.size = 0
  · rw [if_pos h0] at HRe
    obtain rfl : R = bad 6 := unhide HRe
    have hq := (s_beq p).trans (decide_eq_true (none_of h0))
    clear HRe h0 HX HI HM
    go_enter Tryz.func21, Tryz.ntmps21
    go_upto_region 1 with fail
    obtain ⟨wA, hwA⟩ : ∃ wA, wA = (((w.alloc (.cells #[.slice (some ⟨nb, no, none⟩) n cap, .int .i64 now] 24)).alloc (.cells #[.int .i64 u, .int .i64 g, .int .i64 mk, .int .i64 d0] 26)).alloc (.cells zPlace tyRPl)) := ⟨_, rfl⟩
    rw [← hwA] at F0 ⊢
    clear hwA
    obtain ⟨-, -, -, -, -, -, d0, d1, d2, d3, f0, f1, f2, f3⟩ := (unhide F0).cells
    have HZ := hide (set4_below (unhide F0).below (w.heap.size + 2) (by omega) (.int .i64 0) (.string ⟨#[]⟩) (.int .i64 0) (.bool false))
    clear F0
    go_wp2_with fail
    refine bodyPost_ret (v := .tuple #[.agg (pv pz), .int .i64 6]) (by simp [results, Tryz.results21, go_sem, d0, d1, d2, d3]) rfl ⟨rfl, unhide HZ⟩
  rw [if_neg h0] at HRe
  have hq : (p.toList == []) = false := (s_beq p).trans (decide_eq_false (fun e => h0 (by have := congrArg List.length e; exact this)))
  have HBd : Hid (∀ W, Calls Tryz.prog 38 #[.string p] W fun r w' => r = .returned (.bool (badP p)) ∧ w' = W) := fun W => rbad_any p W (by omega)
  cases hb : badP p with
  | true =>
    rw [hb] at HBd
    rw [hb, if_pos rfl] at HRe
    obtain rfl : R = bad 13 := unhide HRe
    clear HRe h0 HX HI HM hb
    go_enter Tryz.func21, Tryz.ntmps21
    go_upto_region 4 with (go_at_call 38; refine (unhide HBd _).mono ?_; rintro r x7 ⟨rfl, hw⟩; rw [hw]; clear hw x7)
    obtain ⟨wA, hwA⟩ : ∃ wA, wA = (((w.alloc (.cells #[.slice (some ⟨nb, no, none⟩) n cap, .int .i64 now] 24)).alloc (.cells #[.int .i64 u, .int .i64 g, .int .i64 mk, .int .i64 d0] 26)).alloc (.cells zPlace tyRPl)) := ⟨_, rfl⟩
    rw [← hwA] at F0 ⊢
    clear hwA
    obtain ⟨-, -, -, -, -, -, d0, d1, d2, d3, f0, f1, f2, f3⟩ := (unhide F0).cells
    have HZ := hide (set4_below (unhide F0).below (w.heap.size + 2) (by omega) (.int .i64 0) (.string ⟨#[]⟩) (.int .i64 0) (.bool false))
    clear F0
    go_wp2_with fail
    refine bodyPost_ret (v := .tuple #[.agg (pv pz), .int .i64 13]) (by simp [results, Tryz.results21, go_sem, d0, d1, d2, d3]) rfl ⟨rfl, unhide HZ⟩
  | false =>
    rw [hb] at HBd
    rw [hb, if_neg (by decide)] at HRe
    have h1024 : p.size ≤ 1024 := by
      unfold badP at hb
      simp only [Bool.or_eq_false_iff, decide_eq_false_iff_not] at hb
      omega
    have hp0 : 0 < p.size := by omega
    have hfirst := first_is p hp0
    have hbg : begins p = decide ((bs p).head? = some 47) := rfl
    rw [← hbg] at hfirst
    have HPs := hide (fun W => rparts_any p W (by omega))
    have HSl := hide (fun W => rslash_any p W (by omega))
    have hpl := parts_len p
    clear h0 hb hbg
    have HRR : Hid (R = leadP ns ⟨u, g, mk, d0⟩ follow (17 - 0) (if begins p then 1 else d0) (partsP p) (ends p)) := unhide HRe
    have HDR : Hid (Dr ns (if begins p then 1 else d0)) := by
      show Dr ns _
      split
      · exact dr_root (unhide HK)
      · exact unhide HD0
    clear HRe HD0
    go_enter Tryz.func21, Tryz.ntmps21
    go_upto_region 5 with (go_at_call 38; refine (unhide HBd _).mono ?_; rintro r x7 ⟨rfl, hw⟩; rw [hw]; clear hw x7)
    obtain ⟨wA, hwA⟩ : ∃ wA, wA = (((w.alloc (.cells #[.slice (some ⟨nb, no, none⟩) n cap, .int .i64 now] 24)).alloc (.cells #[.int .i64 u, .int .i64 g, .int .i64 mk, .int .i64 d0] 26)).alloc (.cells zPlace tyRPl)) := ⟨_, rfl⟩
    rw [← hwA] at F0 ⊢
    clear hwA HBd
    obtain ⟨-, -, -, -, -, e3, -⟩ := (unhide F0).cells
    go_upto_region 6 with fail
    go_cut [28] (fun v wx => v = .bool (begins p) ∧ wx = wA)
    case first =>
      go_wp2_with fail
      go_meet
      exact ⟨by rw [← hfirst], rfl⟩
    case rest =>
      obtain ⟨rfl, rfl⟩ := hcut
      obtain ⟨D, hD⟩ : ∃ D, D = (if begins p then 1 else d0) := ⟨_, rfl⟩
      rw [← hD] at HRR HDR
      go_upto_if 28 with fail
      go_cut [10] (fun v wx => v = .int .i64 (D : Int) ∧ wx = wc)
      case first =>
        cases hbp : begins p with
        | true =>
          rw [hbp] at hD
          go_wp2_with fail
          go_meet
          exact ⟨by rw [hD]; rfl, rfl⟩
        | false =>
          rw [hbp] at hD
          go_wp2_with fail
          go_meet
          exact ⟨by rw [hD]; rfl, rfl⟩
      case rest =>
        obtain ⟨rfl, rfl⟩ := hcut
        clear hD hfirst e3 hq hp0
        go_upto_region 9 with (go_at_call 39; refine (unhide HPs _).mono ?_; rintro r w1 ⟨pa0, pc0, rfl, ho, hb1⟩; have HT0 := hide (tx_own ho); have F1 := hide ((unhide F0).step hb1); clear ho hb1)
        go_wp2_with (go_at_call 40; refine (unhide HSl _).mono ?_; rintro r x7 ⟨rfl, hw⟩; rw [hw]; clear hw x7)
        clear F0 HPs HSl
        obtain ⟨ps, hps⟩ : ∃ ps, ps = partsP p := ⟨_, rfl⟩
        rw [← hps] at HT0 HRR hpl ⊢
        obtain ⟨en, hen⟩ : ∃ en, en = ends p := ⟨_, rfl⟩
        rw [← hen] at HRR ⊢
        clear hps hen
        go_loopg [10, 11, 12, 13] (16 * 100000 + ps.length) (fun m x10 x11 x12 x13 wr => ∃ (d : Nat) (la : Option Addr) (lc : Nat) (ls : List ByteArray) (dirs : Bool) (h : Nat), x10 = .int .i64 d ∧ x11 = .slice la ls.length lc ∧ x12 = .bool dirs ∧ x13 = .int .i64 h ∧ h ≤ 16 ∧ ls.length ≤ 2000 * (h + 1) ∧ m = (16 - h) * 100000 + ls.length ∧ Hid (Fr w wr #[.slice (some ⟨nb, no, none⟩) n cap, .int .i64 now] #[.int .i64 u, .int .i64 g, .int .i64 mk, .int .i64 d0]) ∧ Hid (Tx wr la ls.length lc ls) ∧ Hid (Dr ns d) ∧ Hid (R = leadP ns ⟨u, g, mk, d0⟩ follow (17 - h) d ls dirs))
        case atStart => exact ⟨D, pa0, pc0, ps, en, 0, rfl, rfl, rfl, rfl, by omega, by omega, rfl, F1, HT0, HDR, HRR⟩
        case round =>
          clear F1 HT0 HDR HRR
          obtain ⟨d, la, lc, ls, dirs, h, rfl, rfl, rfl, rfl, hh, hll, rfl, HF0, HT, HD, HR⟩ := hrel
          obtain ⟨m, hm⟩ : ∃ m, h + (m + 1) = 17 := ⟨16 - h, by omega⟩
          rw [lead_succ ns _ follow hm] at HR
          cases ls with
          | nil =>
            obtain rfl : R = (⟨d, ⟨#[]⟩, d, dirs⟩, 0) := unhide HR
            clear HR HT HX HI HM
            obtain ⟨-, -, -, -, -, -, d0', d1, d2, d3, f0, f1, f2, f3⟩ := (unhide HF0).cells
            have HZ := hide (set4_below (unhide HF0).below (w.heap.size + 2) (by omega) (.int .i64 d) (.string ⟨#[]⟩) (.int .i64 d) (.bool dirs))
            clear HF0
            simp only [List.length_nil]
            go_wp2_with fail
            refine bodyPost_ret (v := .tuple #[.agg #[.int .i64 d, .string ⟨#[]⟩, .int .i64 d, .bool dirs], .int .i64 0]) (by simp [results, Tryz.results21, go_sem, d0', d1, d2, d3]) rfl ⟨rfl, unhide HZ⟩
          | cons s l =>
            obtain ⟨pb, po, rfl, hpx⟩ : ∃ b off, la = some ⟨b, off, none⟩ ∧ wr.cell? ⟨b, off, none⟩ = some (.string s) := by
              rcases (unhide HT).cells with h0 | ⟨b, off, h1, _, h3⟩
              · simp at h0
              · exact ⟨b, off, h1, h3 0 (by simp)⟩
            have hlc := (unhide HT).le
            obtain ⟨L, hL⟩ : ∃ L, L = l.length := ⟨_, rfl⟩
            have eL : (s :: l).length = L + 1 := by rw [hL]; rfl
            rw [eL] at hll hlc ⊢
            have HTl := hide (fun W (hW : wr = W) => tx_tail (hW ▸ unhide HT))
            rw [← hL] at HTl
            have HLL := hide hL
            clear hL eL
            have hLp : (0 : Int) < ((L + 1 : Nat) : Int) := by omega
            go_upto_region 13 with fail
            go_cut [11] (fun v wx => wx = wr ∧ ∃ ra rc, v = .slice ra L rc ∧ Hid (Tx wx ra L rc l))
            case first =>
              by_cases hL0 : L = 0
              · subst hL0
                have HT1 : Hid (l = []) := List.eq_nil_of_length_eq_zero (unhide HLL).symm
                go_wp2_with fail
                all_goals
                  go_meet
                  exact ⟨rfl, _, _, rfl, by show Tx _ _ _ _ l; rw [unhide HT1]; exact tx_none (by intro h; cases h)⟩
              · have HT1 := hide ((unhide HTl wr rfl).2 (by omega))
                have hlc1 : ¬ lc = 1 := by omega
                have hlc2 : 1 < lc := by omega
                go_wp2_with fail
                go_meet
                exact ⟨rfl, _, _, rfl, HT1⟩
            case rest =>
              obtain ⟨rfl, ra, rc, rfl, HTr⟩ := hcut
              clear HT HTl hpx hlc hLp
              have hdn : d < n := by rw [← unhide HLn]; exact (unhide HD).2.1
              have HRg := HR
              have hFd := (unhide HF0).drew
              obtain ⟨da, dc, la', lc', h10, -, -⟩ := (unhide HX d hdn).below hnb (unhide HF0).below
              have HM1 := hide (fun W => unhide HM (nd ns d) (.slice da (nd ns d).data.length dc) (.slice la' (nd ns d).list.length lc') W)
              have HPar := hide (dr_up (unhide HK) (unhide HD))
              have H10 : Hid (∀ W, Below w.heap.size w W → W.cell? ⟨nb, no + d * 10 + 9, none⟩ = some (.int .i64 (nd ns d).parent)) := fun W hW => by
                obtain ⟨_, _, _, _, q, _, _⟩ := (unhide HX d hdn).below hnb hW
                exact q.c9
              have Hcase := hide (fun h1 h2 h3 h4 => goP_node (e := ⟨u, g, mk, d0⟩) (follow := follow) (next := leadP ns ⟨u, g, mk, d0⟩ follow m) (dirs := dirs) (s := s) (l := l) (unhide HK) (unhide HD) h1 h2 h3 h4)
              have HIn := hide (fun W (hW : Below w.heap.size w W) => unhide HI W d s hW (unhide HD))
              obtain ⟨M, hM⟩ : ∃ M, M = mayP (nd ns d) ⟨u, g, mk, d0⟩ 1 := ⟨_, rfl⟩
              rw [← hM] at HM1 Hcase
              have HMe := hide hM
              clear hM
              have hS0 : _ ∧ _ := ⟨h10, (unhide HF0).cells⟩
              clear h10
              have HS := hide hS0
              clear hS0
              obtain ⟨x, hx⟩ : ∃ x, x = nd ns d := ⟨_, rfl⟩
              rw [← hx] at HM1 HS
              have HXe := hide hx
              clear hx
              obtain ⟨kd, md, us, gr, lk, ti, dt, tg, lss, pa⟩ := x
              obtain ⟨⟨q0, q1, q2, q3, q4, q5, q6, q7, q8, q9⟩, k0, k1, k2, k3, k4, k5, -⟩ := unhide HS
              simp only at q0 q1 q2 q3 q4 q5 q6 q7 q8 q9 HM1
              unfold na at HM1
              simp only at HM1
              generalize dt.length = dl at *
              generalize lss.length = ll at *
              clear HS
              have hS1 : wc.drew.cell? ⟨nb, no + d * 10, none⟩ = some (.int .u8 kd.toNat) ∧ wc.drew.cell? ⟨nb, no + d * 10 + 1, none⟩ = some (.int .i64 md) ∧ wc.drew.cell? ⟨nb, no + d * 10 + 2, none⟩ = some (.int .i64 us) ∧ wc.drew.cell? ⟨nb, no + d * 10 + 3, none⟩ = some (.int .i64 gr) ∧ wc.drew.cell? ⟨nb, no + d * 10 + 4, none⟩ = some (.int .i64 lk) ∧ wc.drew.cell? ⟨nb, no + d * 10 + 5, none⟩ = some (.int .i64 ti) ∧ wc.drew.cell? ⟨nb, no + d * 10 + 6, none⟩ = some (.slice da dl dc) ∧ wc.drew.cell? ⟨nb, no + d * 10 + 7, none⟩ = some (.string tg) ∧ wc.drew.cell? ⟨nb, no + d * 10 + 8, none⟩ = some (.slice la' ll lc') ∧ wc.drew.cell? ⟨nb, no + d * 10 + 9, none⟩ = some (.int .i64 pa) ∧ wc.drew.cell? ⟨w.heap.size, 0, none⟩ = some (.slice (some ⟨nb, no, none⟩) n cap) ∧ wc.drew.cell? ⟨w.heap.size + 1, 0, none⟩ = some (.int .i64 u) ∧ wc.drew.cell? ⟨w.heap.size + 1, 1, none⟩ = some (.int .i64 g) ∧ wc.drew.cell? ⟨w.heap.size + 1, 2, none⟩ = some (.int .i64 mk) ∧ wc.drew.cell? ⟨w.heap.size + 1, 3, none⟩ = some (.int .i64 d0) := ⟨q0, q1, q2, q3, q4, q5, q6, q7, q8, q9, k0, k2, k3, k4, k5⟩
              clear q0 q1 q2 q3 q4 q5 q6 q7 q8 q9 k0 k1 k2 k3 k4 k5
              have HFd := hide hFd
              have HTd := hide (unhide HTr).drew
              have HKeep : Hid (∀ W2, Below wc.drew.heap.size wc.drew W2 → Fr w W2 #[.slice (some ⟨nb, no, none⟩) n cap, .int .i64 now] #[.int .i64 u, .int .i64 g, .int .i64 mk, .int .i64 d0] ∧ Tx W2 ra L rc l ∧ W2.cell? ⟨nb, no + d * 10, none⟩ = some (.int .u8 kd.toNat) ∧ W2.cell? ⟨nb, no + d * 10 + 1, none⟩ = some (.int .i64 md) ∧ W2.cell? ⟨nb, no + d * 10 + 2, none⟩ = some (.int .i64 us) ∧ W2.cell? ⟨nb, no + d * 10 + 3, none⟩ = some (.int .i64 gr) ∧ W2.cell? ⟨nb, no + d * 10 + 4, none⟩ = some (.int .i64 lk) ∧ W2.cell? ⟨nb, no + d * 10 + 5, none⟩ = some (.int .i64 ti) ∧ W2.cell? ⟨nb, no + d * 10 + 6, none⟩ = some (.slice da dl dc) ∧ W2.cell? ⟨nb, no + d * 10 + 7, none⟩ = some (.string tg) ∧ W2.cell? ⟨nb, no + d * 10 + 8, none⟩ = some (.slice la' ll lc') ∧ W2.cell? ⟨nb, no + d * 10 + 9, none⟩ = some (.int .i64 pa) ∧ W2.cell? ⟨w.heap.size, 0, none⟩ = some (.slice (some ⟨nb, no, none⟩) n cap) ∧ W2.cell? ⟨w.heap.size + 1, 0, none⟩ = some (.int .i64 u) ∧ W2.cell? ⟨w.heap.size + 1, 1, none⟩ = some (.int .i64 g) ∧ W2.cell? ⟨w.heap.size + 1, 2, none⟩ = some (.int .i64 mk) ∧ W2.cell? ⟨w.heap.size + 1, 3, none⟩ = some (.int .i64 d0)) := fun W2 hb => by
                have hF2 := (unhide HFd).step hb
                have hnb2 : nb < wc.drew.heap.size := Nat.lt_of_lt_of_le hnb (unhide HFd).below.size
                obtain ⟨a0, a1, a2, a3, a4, a5, a6, a7, a8, a9, -⟩ := hS1
                obtain ⟨b0, -, b2, b3, b4, b5, -⟩ := hF2.cells
                exact ⟨hF2, (unhide HTd).below hb, (hb.cell hnb2).trans a0, (hb.cell hnb2).trans a1, (hb.cell hnb2).trans a2, (hb.cell hnb2).trans a3, (hb.cell hnb2).trans a4, (hb.cell hnb2).trans a5, (hb.cell hnb2).trans a6, (hb.cell hnb2).trans a7, (hb.cell hnb2).trans a8, (hb.cell hnb2).trans a9, b0, b2, b3, b4, b5⟩
              clear hFd HF0 HTr
              go_wp2_with fail
              go_region_held3 (fun w' => w'.cell? ⟨nb, no + d * 10, none⟩ = some (.int .u8 kd.toNat) ∧ w'.cell? ⟨nb, no + d * 10 + 1, none⟩ = some (.int .i64 md) ∧ w'.cell? ⟨nb, no + d * 10 + 2, none⟩ = some (.int .i64 us) ∧ w'.cell? ⟨nb, no + d * 10 + 3, none⟩ = some (.int .i64 gr) ∧ w'.cell? ⟨nb, no + d * 10 + 4, none⟩ = some (.int .i64 lk) ∧ w'.cell? ⟨nb, no + d * 10 + 5, none⟩ = some (.int .i64 ti) ∧ w'.cell? ⟨nb, no + d * 10 + 6, none⟩ = some (.slice da dl dc) ∧ w'.cell? ⟨nb, no + d * 10 + 7, none⟩ = some (.string tg) ∧ w'.cell? ⟨nb, no + d * 10 + 8, none⟩ = some (.slice la' ll lc') ∧ w'.cell? ⟨nb, no + d * 10 + 9, none⟩ = some (.int .i64 pa) ∧ w'.cell? ⟨w.heap.size, 0, none⟩ = some (.slice (some ⟨nb, no, none⟩) n cap) ∧ w'.cell? ⟨w.heap.size + 1, 0, none⟩ = some (.int .i64 u) ∧ w'.cell? ⟨w.heap.size + 1, 1, none⟩ = some (.int .i64 g) ∧ w'.cell? ⟨w.heap.size + 1, 2, none⟩ = some (.int .i64 mk) ∧ w'.cell? ⟨w.heap.size + 1, 3, none⟩ = some (.int .i64 d0)) (with_reducible assumption)
                (first
                  | ((with_reducible refine (unhide HM1 _).mono ?_); rintro r w3 ⟨rfl, hb3⟩; have hK3 := unhide HKeep _ hb3; have hS2 := hK3.2.2; have HF1 := hide hK3.1; have HT1 := hide hK3.2.1; clear hb3 hK3)
                  | fail)
              clear hS1 hS2 HKeep HFd HTd HM1
              have HT2 : Hid (Tx w3 ra l.length rc l) := by show Tx w3 ra l.length rc l; rw [← unhide HLL]; exact unhide HT1
              cases M with
              | false =>
                obtain rfl : R = bad 10 := by rw [unhide HRg, goP, if_pos (unhide HMe).symm]
                clear HRg Hcase HIn HPar H10 HMe HT1 HT2 HX HI HM HD HR
                obtain ⟨-, -, -, -, -, -, d0, d1, d2, d3, f0, f1, f2, f3⟩ := (unhide HF1).cells
                have HZ := hide (set4_below (unhide HF1).below (w.heap.size + 2) (by omega) (.int .i64 0) (.string ⟨#[]⟩) (.int .i64 0) (.bool false))
                clear HF1
                go_wp2_with fail
                refine bodyPost_ret (v := .tuple #[.agg (pv pz), .int .i64 10]) (by simp [results, Tryz.results21, go_sem, d0, d1, d2, d3]) rfl ⟨rfl, unhide HZ⟩
              | true =>
              have hM1 : mayP (nd ns d) ⟨u, g, mk, d0⟩ 1 = true := (unhide HMe).symm
              by_cases h2 : 64 < s.size
              · have h2' : (64 : Int) < (s.size : Int) := by omega
                obtain rfl : R = bad 13 := by rw [unhide HRg, goP, if_neg (by rw [hM1]; decide), if_pos h2]
                clear HRg Hcase HIn HPar H10 HMe HT1 HT2 HX HI HM HD HR hM1 h2
                obtain ⟨-, -, -, -, -, -, d0, d1, d2, d3, f0, f1, f2, f3⟩ := (unhide HF1).cells
                have HZ := hide (set4_below (unhide HF1).below (w.heap.size + 2) (by omega) (.int .i64 0) (.string ⟨#[]⟩) (.int .i64 0) (.bool false))
                clear HF1
                go_wp2_with fail
                refine bodyPost_ret (v := .tuple #[.agg (pv pz), .int .i64 13]) (by simp [results, Tryz.results21, go_sem, d0, d1, d2, d3]) rfl ⟨rfl, unhide HZ⟩
              have h2' : ¬ (64 : Int) < (s.size : Int) := by omega
              by_cases h3 : s = dot
              · have HR2 : Hid (R = leadP ns ⟨u, g, mk, d0⟩ follow (17 - h) d l dirs) := by
                  show R = _
                  rw [lead_succ ns _ follow hm, unhide HRg, goP, if_neg (by rw [hM1]; decide), if_neg h2, if_pos h3]
                have h3' : (s.toList == [46]) = true := (ba_beq (t := dot) rfl).trans (decide_eq_true h3)
                clear HRg Hcase HIn HPar H10 HMe HT1 hM1 h2 h3 HR
                go_wp2_with fail
                go_roundg ((16 - h) * 100000 + l.length)
                case measure => have := unhide HLL; omega
                case rel => exact ⟨d, ra, rc, l, dirs, h, rfl, by rw [unhide HLL], rfl, rfl, hh, by have := unhide HLL; omega, by have := unhide HLL; omega, HF1, HT2, HD, HR2⟩
              have h3' : (s.toList == [46]) = false := (ba_beq (t := dot) rfl).trans (decide_eq_false h3)
              by_cases h4 : s = dots
              · obtain ⟨pp, hpp, hdp⟩ := unhide HPar
                have HR2 : Hid (R = leadP ns ⟨u, g, mk, d0⟩ follow (17 - h) pp l dirs) := by
                  show R = _
                  rw [lead_succ ns _ follow hm, unhide HRg, goP, if_neg (by rw [hM1]; decide), if_neg h2, if_neg h3, if_pos h4, hpp, Int.toNat_natCast]
                have h4' : (s.toList == [46, 46]) = true := (ba_beq (t := dots) rfl).trans (decide_eq_true h4)
                have k0 := (unhide HF1).cells.1
                obtain rfl : pa = (pp : Int) := by have q := congrArg Nd.parent (unhide HXe); simp only at q; rw [q, hpp]
                have HDp := hide hdp
                clear HRg Hcase HIn HPar H10 HMe HT1 hM1 h2 h3 h4 HR hpp hdp
                go_wp2_with fail
                go_roundg ((16 - h) * 100000 + l.length)
                case measure => have := unhide HLL; omega
                case rel => exact ⟨pp, ra, rc, l, dirs, h, rfl, by rw [unhide HLL], rfl, rfl, hh, by have := unhide HLL; omega, by have := unhide HLL; omega, HF1, HT2, HDp, HR2⟩
              have h4' : (s.toList == [46, 46]) = false := (ba_beq (t := dots) rfl).trans (decide_eq_false h4)
              have hcase := unhide Hcase rfl h2 h3 h4
              rw [← unhide HRg] at hcase
              have HIn1 := hide (unhide HIn w3 (unhide HF1).below)
              obtain ⟨k0, k1, -⟩ := (unhide HF1).cells
              clear Hcase HIn HPar H10 HMe hM1 h2 h3 h4 HRg HR
              have HlE : Hid (l = [] ↔ L = 0) := by
                show _ ↔ _
                rw [unhide HLL]; exact List.length_eq_zero_iff.symm
              rcases hcase with ⟨hF, hR⟩ | ⟨x, hF, hx0, hxn, hkk⟩
              · rw [hF] at HIn1
                go_wp2_with fail
                refine (unhide HIn1).mono ?_
                rintro r w4 ⟨rfl, hb4⟩
                have HF2 := hide ((unhide HF1).step hb4)
                clear hb4 HF1 HIn1 k0 k1 hF HT1 HT2
                by_cases hL0 : L = 0
                · obtain rfl : R = (⟨d, s, 0, dirs⟩, 0) := by rw [hR, if_pos ((unhide HlE).2 hL0)]
                  subst hL0
                  clear hR HX HI HM HD
                  obtain ⟨-, -, -, -, -, -, d0, d1, d2, d3, f0, f1, f2, f3⟩ := (unhide HF2).cells
                  have HZ := hide (set4_below (unhide HF2).below (w.heap.size + 2) (by omega) (.int .i64 d) (.string s) (.int .i64 0) (.bool dirs))
                  clear HF2
                  go_wp2_with fail
                  refine bodyPost_ret (v := .tuple #[.agg #[.int .i64 d, .string s, .int .i64 0, .bool dirs], .int .i64 0]) (by simp [results, Tryz.results21, go_sem, d0, d1, d2, d3]) rfl ⟨rfl, unhide HZ⟩
                · obtain rfl : R = bad 6 := by rw [hR, if_neg (fun q => hL0 ((unhide HlE).1 q))]
                  have hL1 : ((L : Int) == 0) = false := by simpa using hL0
                  clear hR HX HI HM HD
                  obtain ⟨-, -, -, -, -, -, d0, d1, d2, d3, f0, f1, f2, f3⟩ := (unhide HF2).cells
                  have HZ := hide (set4_below (unhide HF2).below (w.heap.size + 2) (by omega) (.int .i64 0) (.string ⟨#[]⟩) (.int .i64 0) (.bool false))
                  clear HF2
                  go_wp2_with fail
                  refine bodyPost_ret (v := .tuple #[.agg (pv pz), .int .i64 6]) (by simp [results, Tryz.results21, go_sem, d0, d1, d2, d3]) rfl ⟨rfl, unhide HZ⟩
              · rw [hF] at HIn1
                have hxl : x < n := by rw [← unhide HLn]; exact hxn
                have hxz : ((x : Int) == 0) = false := by simp; omega
                go_upto_region 27 with ((with_reducible refine (unhide HIn1).mono ?_); rintro r w4 ⟨rfl, hb4⟩; have HF2 := hide ((unhide HF1).step hb4); have HT3 := hide ((unhide HT2).below hb4); clear hb4 HF1)
                obtain ⟨xa, xc, xl, xlc, x10, -, -⟩ := (unhide HX x hxl).below hnb (unhide HF2).below
                obtain ⟨y, hy⟩ : ∃ y, y = nd ns x := ⟨_, rfl⟩
                rw [← hy] at x10 hkk
                have HY := hide hy
                clear hy
                obtain ⟨xk, xm, xu, xg, xL, xt, xd, xT, xe, xp⟩ := y
                obtain ⟨y0, y1, y2, y3, y4, y5, y6, y7, y8, y9⟩ := x10
                simp only at y0 y1 y2 y3 y4 y5 y6 y7 y8 y9 hkk
                generalize xd.length = xdl at *
                generalize xe.length = xel at *
                have hwl4 : w.heap.size < w4.heap.size := lt1' (unhide HF2).tree
                obtain ⟨z, hz⟩ : ∃ z : Int, z = ((xk.toNat : Nat) : Int) := ⟨_, rfl⟩
                rw [← hz] at y0
                have HZk := hide hz
                clear hz
                obtain ⟨k0', k1', -⟩ := (unhide HF2).cells
                have HF3 := hide ((unhide HF2).step (below_new' w4 (.cells #[.int .u8 z, .int .i64 xm, .int .i64 xu, .int .i64 xg, .int .i64 xL, .int .i64 xt, .slice xa xdl xc, .string xT, .slice xl xel xlc, .int .i64 xp] tyNode)))
                have HT4 := hide ((unhide HT3).below (below_new' w4 (.cells #[.int .u8 z, .int .i64 xm, .int .i64 xu, .int .i64 xg, .int .i64 xL, .int .i64 xt, .slice xa xdl xc, .string xT, .slice xl xel xlc, .int .i64 xp] tyNode)))
                have HBx := hide (heap_alloc_new w4 (.cells #[.int .u8 z, .int .i64 xm, .int .i64 xu, .int .i64 xg, .int .i64 xL, .int .i64 xt, .slice xa xdl xc, .string xT, .slice xl xel xlc, .int .i64 xp] tyNode))
                go_upto_region 28 with fail
                obtain ⟨w5, hw5⟩ : ∃ w5, w5 = w4.alloc (.cells #[.int .u8 z, .int .i64 xm, .int .i64 xu, .int .i64 xg, .int .i64 xL, .int .i64 xt, .slice xa xdl xc, .string xT, .slice xl xel xlc, .int .i64 xp] tyNode) := ⟨_, rfl⟩
                obtain ⟨X, hX⟩ : ∃ X, X = w4.heap.size := ⟨_, rfl⟩
                rw [← hw5] at HF3 HT4 HBx ⊢
                rw [← hX] at HBx ⊢
                clear hw5 hX y0 y1 y2 y3 y4 y5 y6 y7 y8 y9 k0 k1 k0' k1' HF2 HT3 hwl4 HT2 HT1 HIn1 hF
                obtain ⟨b0, -, -, -, -, -, -, b7, -, -⟩ := node_cells (unhide HBx)
                have hXl := lt1' (unhide HBx)
                rcases hkk with ⟨hk, hR⟩ | ⟨hk, hx, hR⟩ | ⟨hk, htt, hR⟩
                · obtain rfl : z = 1 := by rw [unhide HZk, hk]; rfl
                  clear HZk hk HBx
                  by_cases hL0 : L = 0
                  · subst hL0
                    cases dirs with
                    | true =>
                      obtain rfl : R = bad 9 := by rw [hR, if_pos (.inr rfl)]
                      clear hR HX HI HM HD
                      obtain ⟨-, -, -, -, -, -, d0, d1, d2, d3, f0, f1, f2, f3⟩ := (unhide HF3).cells
                      have HZ := hide (set4_below (unhide HF3).below (w.heap.size + 2) (by omega) (.int .i64 0) (.string ⟨#[]⟩) (.int .i64 0) (.bool false))
                      clear HF3
                      go_wp2_with fail
                      refine bodyPost_ret (v := .tuple #[.agg (pv pz), .int .i64 9]) (by simp [results, Tryz.results21, go_sem, d0, d1, d2, d3]) rfl ⟨rfl, unhide HZ⟩
                    | false =>
                      obtain rfl : R = (⟨d, s, x, false⟩, 0) := by rw [hR, if_neg (by simp [(unhide HlE).2 rfl])]
                      clear hR HX HI HM HD
                      obtain ⟨-, -, -, -, -, -, d0, d1, d2, d3, f0, f1, f2, f3⟩ := (unhide HF3).cells
                      have HZ := hide (set4_below (unhide HF3).below (w.heap.size + 2) (by omega) (.int .i64 d) (.string s) (.int .i64 x) (.bool false))
                      clear HF3
                      go_wp2_with fail
                      refine bodyPost_ret (v := .tuple #[.agg #[.int .i64 d, .string s, .int .i64 x, .bool false], .int .i64 0]) (by simp [results, Tryz.results21, go_sem, d0, d1, d2, d3]) rfl ⟨rfl, unhide HZ⟩
                  · have hL1 : ((L : Int) == 0) = false := by simpa using hL0
                    obtain rfl : R = bad 9 := by rw [hR, if_pos (.inl (fun q => hL0 ((unhide HlE).1 q)))]
                    clear hR HX HI HM HD
                    obtain ⟨-, -, -, -, -, -, d0, d1, d2, d3, f0, f1, f2, f3⟩ := (unhide HF3).cells
                    have HZ := hide (set4_below (unhide HF3).below (w.heap.size + 2) (by omega) (.int .i64 0) (.string ⟨#[]⟩) (.int .i64 0) (.bool false))
                    clear HF3
                    go_wp2_with fail
                    refine bodyPost_ret (v := .tuple #[.agg (pv pz), .int .i64 9]) (by simp [results, Tryz.results21, go_sem, d0, d1, d2, d3]) rfl ⟨rfl, unhide HZ⟩
                · obtain rfl : z = 2 := by rw [unhide HZk, hk]; rfl
                  clear HZk hk HBx
                  by_cases hL0 : L = 0
                  · subst hL0
                    obtain rfl : R = (⟨d, s, x, dirs⟩, 0) := by rw [hR, if_pos ((unhide HlE).2 rfl)]
                    clear hR HX HI HM HD hx
                    obtain ⟨-, -, -, -, -, -, d0, d1, d2, d3, f0, f1, f2, f3⟩ := (unhide HF3).cells
                    have HZ := hide (set4_below (unhide HF3).below (w.heap.size + 2) (by omega) (.int .i64 d) (.string s) (.int .i64 x) (.bool dirs))
                    clear HF3
                    go_wp2_with fail
                    refine bodyPost_ret (v := .tuple #[.agg #[.int .i64 d, .string s, .int .i64 x, .bool dirs], .int .i64 0]) (by simp [results, Tryz.results21, go_sem, d0, d1, d2, d3]) rfl ⟨rfl, unhide HZ⟩
                  · have hL1 : ((L : Int) == 0) = false := by simpa using hL0
                    have HR2 : Hid (R = leadP ns ⟨u, g, mk, d0⟩ follow (17 - h) x l dirs) := by
                      show R = _
                      rw [lead_succ ns _ follow hm, hR, if_neg (fun q => hL0 ((unhide HlE).1 q))]
                    have HDx := hide hx
                    clear hR hx
                    go_wp2_with fail
                    go_roundg ((16 - h) * 100000 + l.length)
                    case measure => have := unhide HLL; have e9 : (s :: l).length = l.length + 1 := rfl; omega
                    case rel => exact ⟨x, ra, rc, l, dirs, h, rfl, by rw [unhide HLL], rfl, by go_num, hh, by have := unhide HLL; omega, rfl, HF3, HT4, HDx, HR2⟩
                · obtain rfl : z = 3 := by rw [unhide HZk, hk]; rfl
                  clear HZk hk
                  have htl := target_le htt
                  by_cases hfo : l ≠ [] ∨ follow = true ∨ dirs = true
                  case neg =>
                    have hL0 : L = 0 := (unhide HlE).1 (Decidable.byContradiction fun q => hfo (.inl q))
                    obtain rfl : follow = false := by
                      cases follow with
                      | false => rfl
                      | true => exact absurd (.inr (.inl rfl)) hfo
                    obtain rfl : dirs = false := by
                      cases dirs with
                      | false => rfl
                      | true => exact absurd (.inr (.inr rfl)) hfo
                    obtain rfl : R = (⟨d, s, x, false⟩, 0) := by rw [hR, if_neg hfo]
                    subst hL0
                    clear hR HX HI HM HD hfo
                    obtain ⟨-, -, -, -, -, -, d0, d1, d2, d3, f0, f1, f2, f3⟩ := (unhide HF3).cells
                    have HZ := hide (set4_below (unhide HF3).below (w.heap.size + 2) (by omega) (.int .i64 d) (.string s) (.int .i64 x) (.bool false))
                    clear HF3
                    go_wp2_with fail
                    refine bodyPost_ret (v := .tuple #[.agg #[.int .i64 d, .string s, .int .i64 x, .bool false], .int .i64 0]) (by simp [results, Tryz.results21, go_sem, d0, d1, d2, d3]) rfl ⟨rfl, unhide HZ⟩
                  rw [if_pos hfo] at hR
                  have HR2 := hide hR
                  have HTg : Hid (Tx w5 ra L rc l) := by show Tx w5 ra L rc l; rw [unhide HLL]; exact unhide HT4
                  clear hR
                  go_cut [96] (fun v wx => v = .bool true ∧ wx = w5)
                  case first =>
                    by_cases hL0 : L = 0
                    · subst hL0
                      cases follow with
                      | true =>
                        go_wp2_with fail
                        go_meet
                        exact ⟨rfl, rfl⟩
                      | false =>
                        obtain rfl : dirs = true := by
                          rcases hfo with q | q | q
                          · exact absurd ((unhide HlE).2 rfl) q
                          · cases q
                          · exact q
                        go_wp2_with fail
                        go_meet
                        exact ⟨rfl, rfl⟩
                    · have hL1 : ((L : Int) == 0) = false := by simpa using hL0
                      go_wp2_with fail
                      go_meet
                      exact ⟨rfl, rfl⟩
                  case rest =>
                    obtain ⟨rfl, rfl⟩ := hcut
                    clear hfo
                    have HSl := hide (fun W => rslash_any xT W (by omega))
                    have HPs := hide (fun W => rparts_any xT W (by omega))
                    have hpl2 := parts_len xT
                    have hx0' : 0 < xT.size := by omega
                    have hfst := first_is xT hx0'
                    have hbg2 : begins xT = decide ((bs xT).head? = some 47) := rfl
                    rw [← hbg2] at hfst
                    clear hbg2
                    have HlB : Hid (l.isEmpty = decide (L = 0)) := by
                      show _ = _
                      rw [unhide HLL]
                      cases l <;> simp
                    rw [unhide HlB] at HR2
                    by_cases h16 : h = 16
                    · obtain rfl : m = 0 := by omega
                      obtain rfl : R = bad 12 := unhide HR2
                      have h16' : (16 : Int) < (h : Int) + 1 := by omega
                      clear HR2 HX HI HM HD HSl HPs HTg HT4 h16
                      obtain ⟨-, -, -, -, -, -, d0, d1, d2, d3, f0, f1, f2, f3⟩ := (unhide HF3).cells
                      have HZ := hide (set4_below (unhide HF3).below (w.heap.size + 2) (by omega) (.int .i64 0) (.string ⟨#[]⟩) (.int .i64 0) (.bool false))
                      clear HF3
                      go_wp2_with fail
                      refine bodyPost_ret (v := .tuple #[.agg (pv pz), .int .i64 12]) (by simp [results, Tryz.results21, go_sem, d0, d1, d2, d3]) rfl ⟨rfl, unhide HZ⟩
                    have h16' : ¬ (16 : Int) < (h : Int) + 1 := by omega
                    obtain ⟨D2, hD2⟩ : ∃ D2, D2 = (dirs || (decide (L = 0) && ends xT)) := ⟨_, rfl⟩
                    rw [← hD2] at HR2
                    have HD2 := hide hD2
                    clear hD2
                    have HDn : Hid (Dr ns (if begins xT then 1 else d)) := by
                      show Dr ns _
                      split
                      · exact dr_root (unhide HK)
                      · exact unhide HD
                    have HR3 : Hid (R = leadP ns ⟨u, g, mk, d0⟩ follow (17 - (h + 1)) (if begins xT then 1 else d) (partsP xT ++ l) D2) := by
                      show R = _
                      rw [unhide HR2, show 17 - (h + 1) = m by omega]
                    clear HR2
                    go_upto_region 32 with fail
                    obtain ⟨lb, hlb⟩ : ∃ lb : Bool, lb = ((L : Int) == 0) := ⟨_, rfl⟩
                    have hlb2 : decide (L = 0) = lb := by rw [hlb, Bool.eq_iff_iff]; simp
                    rw [← hlb]
                    rw [hlb2] at HD2
                    clear hlb hlb2
                    go_cut [107] (fun v wx => v = .bool (lb && ends xT) ∧ wx = wc)
                    case first =>
                      cases lb with
                      | true =>
                        go_wp2_with (go_at_call 40; refine (unhide HSl _).mono ?_; rintro r x7 ⟨rfl, hw⟩; rw [hw]; clear hw x7)
                        go_meet
                        exact ⟨by simp, rfl⟩
                      | false =>
                        go_wp2_with fail
                        go_meet
                        exact ⟨by simp, rfl⟩
                    case rest =>
                      obtain ⟨rfl, rfl⟩ := hcut
                      obtain ⟨qz, hqz⟩ : ∃ q, q = (lb && ends xT) := ⟨_, rfl⟩
                      rw [← hqz] at HD2 ⊢
                      clear hqz
                      go_upto_if 107 with fail
                      go_cut [12] (fun v wx => v = .bool D2 ∧ wx = wc)
                      case first =>
                        cases qz with
                        | true =>
                          go_wp2_with fail
                          go_meet
                          exact ⟨by rw [unhide HD2]; simp, rfl⟩
                        | false =>
                          go_wp2_with fail
                          go_meet
                          exact ⟨by rw [unhide HD2]; simp, rfl⟩
                      case rest =>
                        obtain ⟨rfl, rfl⟩ := hcut
                        obtain ⟨i1, hi1, hy0, hy1, hy2⟩ := info_parts Tryz.infoStr
                        have HlT : Hid ((partsP xT).length + L = (partsP xT ++ l).length) := by show _ = _; rw [List.length_append, ← unhide HLL]
                        clear HD2
                        cases hbx : begins xT with
                        | true =>
                          rw [hbx] at hfst HR3 HDn
                          have hf3 : (xT[0].toNat : Int) = 47 := by simpa using hfst
                          rw [if_pos rfl] at HR3 HDn
                          clear hfst hbx
                          go_wp2_with (first | (go_at_call 39; refine (unhide HPs _).mono ?_; rintro r w7 ⟨pa7, pc7, rfl, ho7, hb7⟩; have HO7 := hide ho7; have HB7 := hide hb7; have HTs := hide ((unhide HTg).below hb7); have hs7 : wc.heap.size ≤ w7.heap.size := hb7.size; clear ho7 hb7) | (at_builtin; refine wpList_append_onto rfl _ _ 56 rfl wc.heap.size tyStr i1 _ 1 16 Tryz.underlying56 hi1 hy0 hy1 hy2 rfl (by decide) _ _ _ rfl (unhide HO7) ra L rc (l.map Value.string) rfl (unhide HTs).nil (by rw [List.length_map, (unhide HTs).len, Nat.mul_one]) (unhide HTs).src (one_str l) (by unfold maxLen; omega) (by omega) hs7 ?_; intro v8 w8 ho8 g8; obtain ⟨va8, vc8, rfl⟩ := own_shp ho8; have hb8 := (unhide HB7).grown g8 hs7 (fun k hk => own_lt (unhide HO7) k hk); have HF8 := hide ((unhide HF3).step hb8); have HT8 := hide (tx_own2 (unhide HLL) ho8); have HB8 := hide ((hb8.block X hXl).trans (unhide HBx)); have b7' := (node_cells (unhide HB8)).2.2.2.2.2.2.2.1; clear ho8 g8 hb8))
                          go_roundg ((16 - (h + 1)) * 100000 + (partsP xT ++ l).length)
                          case measure => have q1 := unhide HLL; have q2 := unhide HlT; have e9 : (s :: l).length = l.length + 1 := rfl; omega
                          case rel => exact ⟨1, va8, vc8, partsP xT ++ l, D2, h + 1, rfl, by rw [← unhide HlT], rfl, by go_num, by omega, by have q1 := unhide HLL; have q2 := unhide HlT; omega, rfl, HF8, HT8, HDn, HR3⟩
                        | false =>
                          rw [hbx] at hfst HR3 HDn
                          have hf3 : ¬ (xT[0].toNat : Int) = 47 := by simpa using hfst
                          rw [if_neg (by decide)] at HR3 HDn
                          clear hfst hbx
                          go_wp2_with (first | (go_at_call 39; refine (unhide HPs _).mono ?_; rintro r w7 ⟨pa7, pc7, rfl, ho7, hb7⟩; have HO7 := hide ho7; have HB7 := hide hb7; have HTs := hide ((unhide HTg).below hb7); have hs7 : wc.heap.size ≤ w7.heap.size := hb7.size; clear ho7 hb7) | (at_builtin; refine wpList_append_onto rfl _ _ 56 rfl wc.heap.size tyStr i1 _ 1 16 Tryz.underlying56 hi1 hy0 hy1 hy2 rfl (by decide) _ _ _ rfl (unhide HO7) ra L rc (l.map Value.string) rfl (unhide HTs).nil (by rw [List.length_map, (unhide HTs).len, Nat.mul_one]) (unhide HTs).src (one_str l) (by unfold maxLen; omega) (by omega) hs7 ?_; intro v8 w8 ho8 g8; obtain ⟨va8, vc8, rfl⟩ := own_shp ho8; have hb8 := (unhide HB7).grown g8 hs7 (fun k hk => own_lt (unhide HO7) k hk); have HF8 := hide ((unhide HF3).step hb8); have HT8 := hide (tx_own2 (unhide HLL) ho8); have HB8 := hide ((hb8.block X hXl).trans (unhide HBx)); have b7' := (node_cells (unhide HB8)).2.2.2.2.2.2.2.1; clear ho8 g8 hb8))
                          go_roundg ((16 - (h + 1)) * 100000 + (partsP xT ++ l).length)
                          case measure => have q1 := unhide HLL; have q2 := unhide HlT; have e9 : (s :: l).length = l.length + 1 := rfl; omega
                          case rel => exact ⟨d, va8, vc8, partsP xT ++ l, D2, h + 1, rfl, by rw [← unhide HlT], rfl, by go_num, by omega, by have q1 := unhide HLL; have q2 := unhide HlT; omega, rfl, HF8, HT8, HDn, HR3⟩
end Go.Proofs.YthmoinagfooncaaGreatDoor.Pt
