/- What Find answers. -/
import Derived.Test.YtbajjbgeohbdjaaPtLead
import Derived.Test.YtbajjbgeohbdjaaPmChk
namespace Go.Proofs.Ytbajjbgeohbdjaa.Pt
open Go.RowKit Go.Proofs.Ytbajjbgeohbdjaa.Cu Go.Proofs.Ytbajjbgeohbdjaa.Tr Go.Proofs.Ytbajjbgeohbdjaa.Pm

def findA (now : Int) (ns : List Nd) (e : Ev) (s : ByteArray) (follow : Bool) : Pl × Int := if someP now ns e = false then bad 1 else inPath ns e s follow
theorem index_zero (s : ByteArray) : decide (0 ≤ Lib.indexByte s.data.toList 0) = hasB s 0 := by
  unfold hasB
  rw [decide_eq_decide]
  have hge := Lib.indexByte_ge s.data.toList 0
  constructor
  · intro h
    obtain ⟨o, ho⟩ : ∃ o : Nat, Lib.indexByte s.data.toList 0 = o := ⟨(Lib.indexByte s.data.toList 0).toNat, by omega⟩
    have := (Lib.indexByte_some ho).1
    exact List.mem_of_getElem? this
  · intro h
    refine Decidable.byContradiction fun hn => ?_
    have e : Lib.indexByte s.data.toList 0 = -1 := by omega
    obtain ⟨k, hk, hx⟩ := List.getElem_of_mem h
    exact Lib.indexByte_none e k (by rw [← hx]; exact List.getElem?_eq_getElem hk)
theorem some_dir {now : Int} {ns : List Nd} {e : Ev} (h : someP now ns e = true) : checkP now ns = true ∧ ∃ d : Nat, e.dir = (d : Int) ∧ Dr ns d := by
  unfold someP dirAt nodeP at h
  simp only [Bool.and_eq_true, decide_eq_true_eq] at h
  obtain ⟨_, ⟨⟨⟨⟨h1, h2⟩, h3⟩, _⟩, h5⟩⟩ := h
  exact ⟨h1, e.dir.toNat, by omega, by omega, by omega, h5⟩
/-- the boxes of Find -/
structure Fs (w W : World) (cT cE : Array Value) : Prop where
  below : Below w.heap.size w W
  tree : W.heap[w.heap.size]? = some (.cells cT 24)
  env : W.heap[w.heap.size + 1]? = some (.cells cE 26)
  room : W.heap[w.heap.size + 2]? = some (.cells zPlace tyPlace)
theorem Fs.step {w W W' : World} {cT cE : Array Value} (h : Fs w W cT cE) (hb : Below W.heap.size W W') : Fs w W' cT cE :=
  ⟨h.below.trans (hb.mono h.below.size), (hb.block _ (Array.getElem?_eq_some_iff.1 h.tree).1).trans h.tree, (hb.block _ (Array.getElem?_eq_some_iff.1 h.env).1).trans h.env, (hb.block _ (Array.getElem?_eq_some_iff.1 h.room).1).trans h.room⟩
theorem fs_first (w : World) (cT cE : Array Value) : Fs w (((w.alloc (.cells cT 24)).alloc (.cells cE 26)).alloc (.cells zPlace tyPlace)) cT cE := by
  have z1 : (w.alloc (.cells cT 24)).heap.size = w.heap.size + 1 := World.size_alloc _ _
  have k1 := heap_alloc_new w (.cells cT 24)
  have b1 : Below w.heap.size w (w.alloc (.cells cT 24)) := (Below.refl _ _).alloc (Nat.le_refl _) _
  generalize w.alloc (.cells cT 24) = w1 at *
  have z2 : (w1.alloc (.cells cE 26)).heap.size = w1.heap.size + 1 := World.size_alloc _ _
  have k2 := heap_alloc_new w1 (.cells cE 26)
  have b2 : Below w1.heap.size w1 (w1.alloc (.cells cE 26)) := (Below.refl _ _).alloc (Nat.le_refl _) _
  generalize w1.alloc (.cells cE 26) = w2 at *
  have k3 := heap_alloc_new w2 (.cells zPlace tyPlace)
  have b3 : Below w2.heap.size w2 (w2.alloc (.cells zPlace tyPlace)) := (Below.refl _ _).alloc (Nat.le_refl _) _
  generalize w2.alloc (.cells zPlace tyPlace) = w3 at *
  rw [z1] at k2
  rw [z2, z1] at k3
  exact ⟨(b1.trans (b2.mono (by omega))).trans (b3.mono (by omega)), (b3.block _ (by omega)).trans ((b2.block _ (by omega)).trans k1), (b3.block _ (by omega)).trans k2, k3⟩
theorem Fs.cells {w W : World} {t0 t1 e0 e1 e2 e3 : Value} (h : Fs w W #[t0, t1] #[e0, e1, e2, e3]) : W.cell? ⟨w.heap.size, 0, none⟩ = some t0 ∧ W.cell? ⟨w.heap.size, 1, none⟩ = some t1 ∧ W.cell? ⟨w.heap.size + 1, 0, none⟩ = some e0 ∧ W.cell? ⟨w.heap.size + 1, 1, none⟩ = some e1 ∧ W.cell? ⟨w.heap.size + 1, 2, none⟩ = some e2 ∧ W.cell? ⟨w.heap.size + 1, 3, none⟩ = some e3 ∧
    W.cell? ⟨w.heap.size + 2, 0, none⟩ = some (.int .i64 0) ∧ W.cell? ⟨w.heap.size + 2, 1, none⟩ = some (.string ⟨#[]⟩) ∧ W.cell? ⟨w.heap.size + 2, 2, none⟩ = some (.int .i64 0) ∧ W.cell? ⟨w.heap.size + 2, 3, none⟩ = some (.bool false) ∧ W.frozen? ⟨w.heap.size + 2, 0, none⟩ = false ∧ W.frozen? ⟨w.heap.size + 2, 1, none⟩ = false ∧ W.frozen? ⟨w.heap.size + 2, 2, none⟩ = false ∧ W.frozen? ⟨w.heap.size + 2, 3, none⟩ = false := by
  refine ⟨?_, ?_, ?_, ?_, ?_, ?_, ?_, ?_, ?_, ?_, ?_, ?_, ?_, ?_⟩
  iterate 2 (rw [cell_of_row _ _ _ _ _ _ h.tree]; rfl)
  iterate 4 (rw [cell_of_row _ _ _ _ _ _ h.env]; rfl)
  iterate 4 (rw [cell_of_row _ _ _ _ _ _ h.room]; rfl)
  all_goals simp [World.frozen?, h.room]
set_option maxRecDepth 100000 in
set_option maxHeartbeats 2000000 in
theorem findP_any (a : Option Addr) (n cap : Nat) (ns : List Nd) (now : Int) (e : Ev) (s : ByteArray) (follow : Bool) (w : World) (h : Ng w a n cap ns) (hs : Sm ns) (hsz : s.size ≤ 1000000000) :
    Calls Try.prog 13 #[.agg #[.slice a n cap, .int .i64 now], .agg (ea e), .string s, .bool follow] w fun r w' => r = .returned (.tuple #[.agg (pv (findA now ns e s follow).1), .int .i64 (findA now ns e s follow).2]) ∧ Below w.heap.size w w' := by
  have HC : Hid (∀ W, Below w.heap.size w W → Calls Try.prog 26 #[.agg #[.slice a n cap, .int .i64 now], .agg (ea e)] W fun r w' => r = .returned (.bool (someP now ns e)) ∧ Below W.heap.size W w') := fun W hW => pCheck_any a n cap ns now e W (h.below hW) hs
  obtain ⟨R, HR⟩ : ∃ R, Hid (R = findA now ns e s follow) := ⟨_, rfl⟩
  rw [← unhide HR]
  have HRe : Hid (R = if someP now ns e = false then bad 1 else inPath ns e s follow) := unhide HR
  clear HR
  have HG := hide h
  clear h hs
  cases hq : someP now ns e with
  | false =>
    rw [hq] at HC HRe
    obtain rfl : R = bad 1 := unhide HRe
    clear HRe hq HG
    obtain ⟨u, g, mk, dr⟩ := e
    unfold ea at HC ⊢
    simp only at HC ⊢
    have F0 := hide (fs_first w #[.slice a n cap, .int .i64 now] #[.int .i64 u, .int .i64 g, .int .i64 mk, .int .i64 dr])
    go_enter Try.func13, Try.ntmps13
    go_wp2_with fail
    refine (unhide HC _ (unhide F0).below).mono ?_
    rintro r w1 ⟨rfl, b1⟩
    have F1 := hide ((unhide F0).step b1)
    clear b1 F0 HC
    obtain ⟨-, -, -, -, -, -, d0, d1, d2, d3, f0, f1, f2, f3⟩ := (unhide F1).cells
    have HF := hide (set4_below (unhide F1).below (w.heap.size + 2) (by omega) (.int .i64 0) (.string ⟨#[]⟩) (.int .i64 0) (.bool false))
    clear F1
    go_wp2_with fail
    refine bodyPost_ret (v := .tuple #[.agg (pv pz), .int .i64 1]) (by simp [results, Try.results13, go_sem, d0, d1, d2, d3]) rfl ⟨rfl, unhide HF⟩
  | true =>
    rw [hq] at HC HRe
    obtain ⟨hck, d, hed, hdr⟩ := some_dir hq
    obtain ⟨u, g, mk, dr⟩ := e
    simp only at hed
    subst hed
    rw [if_neg (by decide)] at HRe
    unfold ea at HC ⊢
    simp only at HC ⊢
    clear hq
    have F0 := hide (fs_first w #[.slice a n cap, .int .i64 now] #[.int .i64 u, .int .i64 g, .int .i64 mk, .int .i64 d])
    unfold inPath at HRe
    by_cases h0 : s.size = 0
    · rw [if_pos h0] at HRe
      obtain rfl : R = bad 6 := unhide HRe
      have hq := (s_beq s).trans (decide_eq_true (none_of h0))
      clear HRe HG h0
      go_enter Try.func13, Try.ntmps13
      go_wp2_with fail
      refine (unhide HC _ (unhide F0).below).mono ?_
      rintro r w1 ⟨rfl, b1⟩
      have F1 := hide ((unhide F0).step b1)
      clear b1 F0 HC
      obtain ⟨-, -, -, -, -, -, d0, d1, d2, d3, f0, f1, f2, f3⟩ := (unhide F1).cells
      have HF := hide (set4_below (unhide F1).below (w.heap.size + 2) (by omega) (.int .i64 0) (.string ⟨#[]⟩) (.int .i64 0) (.bool false))
      clear F1
      go_wp2_with fail
      refine bodyPost_ret (v := .tuple #[.agg (pv pz), .int .i64 6]) (by simp [results, Try.results13, go_sem, d0, d1, d2, d3]) rfl ⟨rfl, unhide HF⟩
    rw [if_neg h0] at HRe
    have hq : (s.toList == []) = false := (s_beq s).trans (decide_eq_false (fun e => h0 (by have := congrArg List.length e; exact this)))
    have HX : Hid (∀ W, Calls Try.prog 27 #[.string s, .int .u8 0] W fun r w' => r = .returned (.int .i64 (Lib.indexByte s.data.toList 0)) ∧ w' = W) := fun W => Try.strings_IndexByte s 0 W
    have hix := index_zero s
    generalize Lib.indexByte s.data.toList 0 = ix at *
    by_cases h1 : 1024 < s.size
    · rw [if_pos (by simp [badP, h1])] at HRe
      obtain rfl : R = bad 13 := unhide HRe
      have h1' : (1024 : Int) < (s.size : Int) := by omega
      clear HRe HG h0 h1
      go_enter Try.func13, Try.ntmps13
      go_wp2_with fail
      refine (unhide HC _ (unhide F0).below).mono ?_
      rintro r w1 ⟨rfl, b1⟩
      have F1 := hide ((unhide F0).step b1)
      clear b1 F0 HC
      obtain ⟨-, -, -, -, -, -, d0, d1, d2, d3, f0, f1, f2, f3⟩ := (unhide F1).cells
      have HF := hide (set4_below (unhide F1).below (w.heap.size + 2) (by omega) (.int .i64 0) (.string ⟨#[]⟩) (.int .i64 0) (.bool false))
      clear F1
      go_wp2_with fail
      refine bodyPost_ret (v := .tuple #[.agg (pv pz), .int .i64 13]) (by simp [results, Try.results13, go_sem, d0, d1, d2, d3]) rfl ⟨rfl, unhide HF⟩
    have h1' : ¬ (1024 : Int) < (s.size : Int) := by omega
    cases hb : hasB s 0 with
    | true =>
      rw [hb] at hix
      rw [if_pos (by simp [badP, hb])] at HRe
      obtain rfl : R = bad 13 := unhide HRe
      have hix' : 0 ≤ ix := by simpa using hix
      clear HRe HG h0 h1 hb hix
      go_enter Try.func13, Try.ntmps13
      go_wp2_with fail
      refine (unhide HC _ (unhide F0).below).mono ?_
      rintro r w1 ⟨rfl, b1⟩
      have F1 := hide ((unhide F0).step b1)
      clear b1 F0 HC
      obtain ⟨-, -, -, -, -, -, d0, d1, d2, d3, f0, f1, f2, f3⟩ := (unhide F1).cells
      have HF := hide (set4_below (unhide F1).below (w.heap.size + 2) (by omega) (.int .i64 0) (.string ⟨#[]⟩) (.int .i64 0) (.bool false))
      clear F1
      go_wp2_with (go_at_call 27; refine (unhide HX _).mono ?_; rintro r1 w3 ⟨rfl, hw⟩; rw [hw]; clear hw w3)
      refine bodyPost_ret (v := .tuple #[.agg (pv pz), .int .i64 13]) (by simp [results, Try.results13, go_sem, d0, d1, d2, d3]) rfl ⟨rfl, unhide HF⟩
    | false =>
      rw [hb] at hix
      rw [if_neg (by simp [badP, hb, h1])] at HRe
      have hix' : ¬ 0 ≤ ix := by simpa using hix
      have HDr := hide hdr
      have HK := hide hck
      clear h0 hb hix hdr hck
      simp only [Int.toNat_natCast] at HRe
      have hpl : (partsP s ++ []).length ≤ 2000 := by rw [List.append_nil]; have := parts_len s; omega
      go_enter Try.func13, Try.ntmps13
      go_wp2_with fail
      refine (unhide HC _ (unhide F0).below).mono ?_
      rintro r w1 ⟨rfl, b1⟩
      have F1 := hide ((unhide F0).step b1)
      clear b1 F0 HC
      obtain ⟨t0, t1, e0, e1, e2, e3, -, -, -, -, -, -, -, -⟩ := (unhide F1).cells
      go_wp2_with (go_at_call 27; refine (unhide HX _).mono ?_; rintro r1 w3 ⟨rfl, hw⟩; rw [hw]; clear hw w3)
      have ht0 := heap_alloc_new w1 (.cells (trA a n cap ⟨u, g, mk, d⟩ d (.slice none 0 0) false) tyTrip)
      have HT := hide (turn_any w1.heap.size a n cap ⟨u, g, mk, d⟩ d (.slice none 0 0) false s none 0 0 [] (w1.alloc (.cells (trA a n cap ⟨u, g, mk, d⟩ d (.slice none 0 0) false) tyTrip)) ht0 ⟨rfl, Nat.le_refl _, fun _ => ⟨rfl, rfl⟩, .inl rfl⟩ (by omega) (by omega))
      have HA : Hid (Below w1.heap.size w1 (w1.alloc (.cells (trA a n cap ⟨u, g, mk, d⟩ d (.slice none 0 0) false) tyTrip))) := (Below.refl _ _).alloc (Nat.le_refl _) _
      clear ht0
      refine (unhide HT).mono ?_
      rintro r2 w3 ⟨rfl, ht3⟩
      obtain ⟨pa, pc, hp1, hp2⟩ := ht3.trip
      have hdr2 : Dr ns (if begins s then 1 else d) := by
        split
        · exact dr_root (unhide HK)
        · exact unhide HDr
      have HL := hide (lead_any now w1 w1.heap.size a n cap ns ⟨u, g, mk, d⟩ (if begins s then 1 else d) (false || (([] : List ByteArray).isEmpty && ends s)) pa pc (partsP s ++ []) follow w3 ((unhide HG).below (unhide F1).below) (unhide HK) hdr2 (ht3.but.below (unhide HA) (Nat.le_refl _) (Nat.le_refl _)) (Nat.le_refl _) hp1 hp2 hpl)
      have hRR : leadP ns ⟨u, g, mk, d⟩ follow 17 (if begins s then 1 else d) (partsP s ++ []) (false || (([] : List ByteArray).isEmpty && ends s)) = R := by rw [List.append_nil]; exact (unhide HRe).symm
      rw [hRR] at HL
      clear hp1 hp2 ht3 HT hdr2 hRR HRe HA HG HK HDr t0 t1 e0 e1 e2 e3 hpl
      obtain ⟨⟨rd, rn, ro, rs⟩, re⟩ := R
      simp only at HL ⊢
      go_wp2_with fail
      refine (unhide HL).mono ?_
      rintro r4 w4 ⟨rfl, b4⟩
      have F4 := hide ((unhide F1).step b4)
      clear b4 F1 HL
      obtain ⟨-, -, -, -, -, -, d0, d1, d2, d3, f0, f1, f2, f3⟩ := (unhide F4).cells
      have HF := hide (set4_below (unhide F4).below (w.heap.size + 2) (by omega) (.int .i64 rd) (.string rn) (.int .i64 ro) (.bool rs))
      clear F4
      go_wp2_with fail
      refine bodyPost_ret (v := .tuple #[.agg #[.int .i64 rd, .string rn, .int .i64 ro, .bool rs], .int .i64 re]) (by simp [results, Try.results13, go_sem, d0, d1, d2, d3]) rfl ⟨rfl, unhide HF⟩
end Go.Proofs.Ytbajjbgeohbdjaa.Pt
