/- What Join answers. -/
import Derived.Test.YtjkajhnnoecjbaaDoorVwMany
import Derived.Test.YtjkajhnnoecjbaaDoorVwConv
set_option linter.unusedVariables false
namespace Go.Proofs.YtjkajhnnoecjbaaDoor.Vw
open Go.RowKit Go.Shelf Cu
open Pa (Tx tot)

attribute [local go_sem] Oper.semAt_some

/-- what stands between -/
def btwc (sep : UInt8) : UInt8 := if sep = 0 then 32 else sep
/-- lines of two lists, joined; and what is told of a fault -/
def joinP (f g : Nat) (sep : UInt8) (A B : List Bs) : List Bs × Int :=
  if sortedP (rowsP f sep (btwc sep) A) = false ∨ sortedP (rowsP g sep (btwc sep) B) = false then ([], 1)
  else if 65536 < (pairsP (rowsP f sep (btwc sep) A) (rowsP g sep (btwc sep) B)).length then ([], 3)
  else ((pairsP (rowsP f sep (btwc sep) A) (rowsP g sep (btwc sep) B)).map toldP, 0)
theorem row_nil_t (B : Nat) (w : World) : RowT B (.slice none 0 0) [] w := World.ownsRow_nil _ _ _ _
theorem conv_one (c : UInt8) (w : World) : (convert 49 9 (.slice (some ⟨w.heap.size, 0, none⟩) 1 1)).run Tryd.prog (w.alloc (.cells #[.int .u8 (c.toNat : Int)] 5)) = .ok (.string (bt [c])) (w.alloc (.cells #[.int .u8 (c.toNat : Int)] 5)) := by
  refine run_convert_bytes_back _ 49 9 5 ⟨w.heap.size, 0, none⟩ 1 [c] Tryd.underlying49 Tryd.underlying5 Tryd.underlying9 ?_
  intro j hj
  obtain rfl : j = 0 := by simpa using hj
  rw [add_at, Lib.cell_of_heap (heap_alloc_new w _)]; rfl
theorem rows_bound (n : Nat) (sep c : UInt8) (ss : List ByteArray) (h : ∀ s ∈ ss, s.size ≤ 1048577) (hn : 1 ≤ n) : ∀ r ∈ rowsP n sep c (txs ss), r.1.length ≤ 1048577 ∧ r.2.length ≤ 4194308 := by
  intro r hr
  unfold rowsP at hr
  obtain ⟨l, hl, rfl⟩ := List.mem_map.1 hr
  obtain ⟨s, hs, rfl⟩ := List.mem_map.1 hl
  have hsz := h s hs
  obtain ⟨h1, h2⟩ := fields_len sep.toNat (bs s)
  rw [bs_len] at h1 h2
  generalize Ln.fieldsL sep.toNat (bs s) = fs at *
  have hled : ∀ l : List Bs, (led [c] l).length ≤ l.length + totL l := by
    intro l
    induction l with
    | nil => simp [led]
    | cons x l ih => rw [led, totL, List.length_append, List.length_append, List.length_cons, List.length_cons, List.length_nil]; omega
  have hget : ∀ (l : List Bs) (i : Nat), (l.getD i []).length ≤ totL l := by
    intro l
    induction l with
    | nil => intro i; simp
    | cons x l ih =>
      intro i
      cases i with
      | zero => simp [totL]
      | succ i => have := ih i; rw [totL]; simp only [List.getD_cons_succ]; omega
  refine ⟨Nat.le_trans (hget fs (n - 1)) (by omega), ?_⟩
  show (led [c] (if n ≤ fs.length then fs.eraseIdx (n - 1) else fs)).length ≤ _
  have h3 := hled (if n ≤ fs.length then fs.eraseIdx (n - 1) else fs)
  have h4 : (if n ≤ fs.length then fs.eraseIdx (n - 1) else fs).length ≤ fs.length := by
    split
    · rw [List.length_eraseIdx]; split <;> omega
    · exact Nat.le_refl _
  have h5 : totL (if n ≤ fs.length then fs.eraseIdx (n - 1) else fs) ≤ totL fs := by
    split
    · exact totL_erase fs (n - 1)
    · exact Nat.le_refl _
  omega
theorem pairs_mem {L R : List Rw} {p : Rw × Rw} (h : p ∈ pairsP L R) : p.1 ∈ L ∧ p.2 ∈ R := by
  unfold pairsP at h
  obtain ⟨x, hx, hp⟩ := List.mem_flatMap.1 h
  obtain ⟨y, hy, rfl⟩ := List.mem_map.1 hp
  exact ⟨hx, (List.mem_filter.1 hy).1⟩
def tcell (pre : List (Rw × Rw)) : List Value := pre.map fun p => .string (bt (toldP p))
theorem tcell_snoc (pre : List (Rw × Rw)) (x : Rw × Rw) : tcell (pre ++ [x]) = tcell pre ++ [.string (bt x.1.1 ++ bt x.1.2 ++ bt x.2.2)] := by
  unfold tcell
  rw [List.map_append, bt_app, bt_app]; rfl
theorem grown_two (o p : Obj) (W : World) : W.grownBy ((W.alloc o).alloc p) none :=
  ⟨rfl, rfl, rfl, by simp; omega, fun k hk _ => (Below.heap_alloc _ _ _ (by simp; omega)).trans (Below.heap_alloc _ _ _ hk)⟩
theorem two_cells (x : Rw × Rw) (W U : World) {l : Nat} (h : ((W.alloc (.cells #[.string (bt x.1.1), .string (bt x.1.2)] 76)).alloc (.cells #[.string (bt x.2.1), .string (bt x.2.2)] 76)).grownBy U (some l)) (hl : l < W.heap.size) :
    U.cell? ⟨W.heap.size, 0, none⟩ = some (.string (bt x.1.1)) ∧ U.cell? ⟨W.heap.size, 1, none⟩ = some (.string (bt x.1.2)) ∧ U.cell? ⟨W.heap.size + 1, 1, none⟩ = some (.string (bt x.2.2)) := by
  have h1 := heap_alloc_new W (.cells #[.string (bt x.1.1), .string (bt x.1.2)] 76)
  have h2 := heap_alloc_new (W.alloc (.cells #[.string (bt x.1.1), .string (bt x.1.2)] 76)) (.cells #[.string (bt x.2.1), .string (bt x.2.2)] 76)
  rw [World.size_alloc] at h2
  have e1 : U.heap[W.heap.size]? = _ := (h.block W.heap.size (by simp; omega) (fun e => by have := Option.some.inj e; omega)).trans ((Below.heap_alloc _ _ _ (by simp)).trans h1)
  have e2 : U.heap[W.heap.size + 1]? = _ := (h.block (W.heap.size + 1) (by simp) (fun e => by have := Option.some.inj e; omega)).trans h2
  exact ⟨by rw [Lib.cell_of_heap e1]; rfl, by rw [Lib.cell_of_heap e1]; rfl, by rw [Lib.cell_of_heap e2]; rfl⟩
theorem keeps_app {B b k : Nat} {v v' : Value} {xs : List Value} {o : Obj} {U w1 : World} (hrow : U.ownsRow B 9 1 v k xs) (hg : (U.alloc o).grownBy w1 v.ownBlock) (hb : b < B) :
    Rng.KeepsBut B (fun o => ∃ cs f, o = .cells cs 9 f) U (w1.setCell ⟨b, 0, none⟩ v') := by
  refine ⟨Nat.le_trans (by simp) (Nat.le_trans hg.size (grownBy_setCell' w1 b v').size), fun j h1 h2 h3 => ?_⟩
  refine (Below.heap_setCell _ _ _ j (fun e => by simp at e; omega)).trans ((hg.block j (by simp; omega) (fun e => ?_)).trans (Below.heap_alloc _ _ _ h2))
  rcases hrow.2 with ⟨rfl, _⟩ | ⟨g, cap, cur, rfl, _, hgb, _⟩
  · simp [Value.ownBlock] at e
  · simp [Value.ownBlock] at e
    subst e
    exact h3 _ hgb ⟨_, _, rfl⟩

set_option maxRecDepth 100000 in
set_option maxHeartbeats 4000000 in
theorem join_zero (a b : Option Addr) (n m ca cb ca' cb' : Nat) (A B : List ByteArray) (f g : Nat) (w : World) (hTa : Tx w a n ca' A) (hTb : Tx w b m cb' B) (hn : n ≤ 1048577) (hm : m ≤ 1048577) (hA : ∀ s ∈ A, s.size ≤ 1048577) (hB : ∀ s ∈ B, s.size ≤ 1048577)
    (hf1 : 1 ≤ f) (hf2 : f ≤ 1000) (hg1 : 1 ≤ g) (hg2 : g ≤ 1000) :
    Calls Tryd.prog 18 #[.slice a n ca, .slice b m cb, .int .i64 f, .int .i64 g, .int .u8 0] w fun e w' => ∃ v, e = .returned (.tuple #[v, .int .i64 (joinP f g 0 (txs A) (txs B)).2]) ∧ RowT w.heap.size v (joinP f g 0 (txs A) (txs B)).1 w' ∧ Below w.heap.size w w' := by
  obtain ⟨i0, hi, hz0, hz1, hz2⟩ := info_parts Pa.Tryd.infoStr
  have a1 : ¬ (f : Int) < 1 := by omega
  have a2 : ¬ (1000 : Int) < (f : Int) := by omega
  have a3 : ¬ (g : Int) < 1 := by omega
  have a4 : ¬ (1000 : Int) < (g : Int) := by omega
  have hc : btwc 0 = 32 := rfl
  have hJ : Hid (joinP f g 0 (txs A) (txs B) = if sortedP (rowsP f 0 32 (txs A)) = false ∨ sortedP (rowsP g 0 32 (txs B)) = false then ([], 1)
      else if 65536 < (pairsP (rowsP f 0 32 (txs A)) (rowsP g 0 32 (txs B))).length then ([], 3)
      else ((pairsP (rowsP f 0 32 (txs A)) (rowsP g 0 32 (txs B))).map toldP, 0)) := by
    show _ = _
    unfold joinP
    rw [hc]
  have H1 : Hid (∀ W, Below w.heap.size w W → Calls Tryd.prog 66 #[.slice a n ca, .int .i64 f, .int .u8 0, .string ({ data := #[32] })] W fun e w' => ∃ v, e = .returned v ∧ RowR W.heap.size v (rowsP f 0 32 (txs A)) w' ∧ Below W.heap.size W w') := fun W hW => rows_any a n ca ca' A f 0 32 W (hTa.below hW) hn hA hf1 hf2
  have H2 : Hid (∀ W, Below w.heap.size w W → Calls Tryd.prog 66 #[.slice b m cb, .int .i64 g, .int .u8 0, .string ({ data := #[32] })] W fun e w' => ∃ v, e = .returned v ∧ RowR W.heap.size v (rowsP g 0 32 (txs B)) w' ∧ Below W.heap.size W w') := fun W hW => rows_any b m cb cb' B g 0 32 W (hTb.below hW) hm hB hg1 hg2
  have hbl := hide (rows_bound f 0 32 A hA hf1)
  have hbr := hide (rows_bound g 0 32 B hB hg1)
  have hLl : (rowsP f 0 32 (txs A)).length ≤ 1048577 := by unfold rowsP; rw [List.length_map, List.length_map, hTa.len]; exact hn
  have hRl : (rowsP g 0 32 (txs B)).length ≤ 1048577 := by unfold rowsP; rw [List.length_map, List.length_map, hTb.len]; exact hm
  generalize joinP f g 0 (txs A) (txs B) = JP at *
  generalize rowsP f 0 32 (txs A) = L at *
  generalize rowsP g 0 32 (txs B) = R at *
  clear hTa hTb hA hB hc
  refine (callsIn_wide (n := 3)).1 ?_
  refine callsIn_of_wp_marks Tryd.func18 rfl trivial ?_ rfl
  simp only [Tryd.ntmps18, List.size_toArray, List.length_cons, List.length_nil, Nat.reduceAdd, Nat.reduceSub, Array.replicate_succ, Array.replicate_zero, List.push_toArray, List.append_toArray, List.nil_append, List.cons_append]
  refine wpIn_wide.2 ?_
  go_wp2_with fail
  have B1 : Hid (Below w.heap.size w (w)) := Below.refl _ _
  refine (unhide H1 _ (unhide B1)).mono ?_
  rintro e w2 ⟨v1, rfl, hO1, b2⟩
  have B2 := hide ((unhide B1).trans (b2.mono (unhide B1).size))
  obtain ⟨a1', c1, rfl, hR1⟩ := rr_of_row hO1
  have R1 := hide hR1
  clear b2 hO1 hR1 B1 H1
  go_wp2_with fail
  refine (unhide H2 _ (unhide B2)).mono ?_
  rintro e w3 ⟨v2, rfl, hO2, b3⟩
  have B3 := hide ((unhide B2).trans (b3.mono (unhide B2).size))
  obtain ⟨a2', c2, rfl, hR2⟩ := rr_of_row hO2
  have R2 := hide hR2
  have R1 := hide ((unhide R1).below b3)
  have C1 := hide (inOrder_any a1' L.length c1 L w3 (unhide R1) hLl)
  clear b3 hO2 hR2 B2 H2
  go_wp2_with fail
  refine (unhide C1).mono ?_
  rintro e w4 ⟨rfl, b4⟩
  have B4 := hide ((unhide B3).trans (b4.mono (unhide B3).size))
  have R1 := hide ((unhide R1).below b4)
  have R2 := hide ((unhide R2).below b4)
  clear b4 B3 C1
  cases hsl : sortedP L
  · have hJe : Hid (JP = ([], 1)) := by show _ = _; rw [unhide hJ, if_pos (.inl hsl)]
    clear hJ
    go_wp2_with fail
    exact ⟨_, results_tmp2 (fn := Tryd.f18) rfl _ _ _, _, by rw [unhide hJe]; rfl, by rw [unhide hJe]; exact row_nil_t _ _, unhide B4⟩
  have C2 := hide (inOrder_any a2' R.length c2 R w4 (unhide R2) hRl)
  go_wp2_with fail
  refine (unhide C2).mono ?_
  rintro e w5 ⟨rfl, b5⟩
  have B5 := hide ((unhide B4).trans (b5.mono (unhide B4).size))
  have R1 := hide ((unhide R1).below b5)
  have R2 := hide ((unhide R2).below b5)
  clear b5 B4 C2
  cases hsr : sortedP R
  · have hJe : Hid (JP = ([], 1)) := by show _ = _; rw [unhide hJ, if_pos (.inr hsr)]
    clear hJ
    go_wp2_with fail
    exact ⟨_, results_tmp2 (fn := Tryd.f18) rfl _ _ _, _, by rw [unhide hJe]; rfl, by rw [unhide hJe]; exact row_nil_t _ _, unhide B5⟩
  have hJ : Hid (JP = if 65536 < (pairsP L R).length then ([], 3) else ((pairsP L R).map toldP, 0)) := by
    show _ = _
    rw [unhide hJ, if_neg (by rw [hsl, hsr]; simp)]
  have C3 := hide (tooMany_any a1' a2' L.length R.length c1 c2 L R w5 hLl hRl hsl hsr (unhide R1) (unhide R2))
  go_wp2_with fail
  refine (unhide C3).mono ?_
  rintro e w6 ⟨rfl, b6⟩
  have B6 := hide ((unhide B5).trans (b6.mono (unhide B5).size))
  have R1 := hide ((unhide R1).below b6)
  have R2 := hide ((unhide R2).below b6)
  clear b6 B5 C3
  by_cases hmany : 65536 < (pairsP L R).length
  · have hJe : Hid (JP = ([], 3)) := by show _ = _; rw [unhide hJ, if_pos hmany]
    rw [decide_eq_true hmany]
    clear hJ
    go_wp2_with fail
    exact ⟨_, results_tmp2 (fn := Tryd.f18) rfl _ _ _, _, by rw [unhide hJe]; rfl, by rw [unhide hJe]; exact row_nil_t _ _, unhide B6⟩
  have hJe : Hid (JP = ((pairsP L R).map toldP, 0)) := by show _ = _; rw [unhide hJ, if_neg hmany]
  rw [decide_eq_false hmany]
  have CP := hide (fun W => pairs_any a1' a2' L.length R.length c1 c2 W)
  clear hJ
  go_wp2_with fail
  refine (unhide CP _).mono ?_
  rintro e w7 ⟨rfl, rfl⟩
  go_wp2_with fail
  refine (wpIn_wide (n := 3)).1 ?_
  have bT := ((Boxed.new w6 25 (.slice none 0 0)).alloc (.cells #[.slice a1' L.length c1] 68)).alloc (.cells #[.slice a2' R.length c2] 68)
  have bA := (Boxed.new (w6.alloc (.cells #[.slice none 0 0] 25)) 68 (.slice a1' L.length c1)).alloc (.cells #[.slice a2' R.length c2] 68)
  have bB := Boxed.new ((w6.alloc (.cells #[.slice none 0 0] 25)).alloc (.cells #[.slice a1' L.length c1] 68)) 68 (.slice a2' R.length c2)
  have hB0 : Below w6.heap.size w6 (((w6.alloc (.cells #[.slice none 0 0] 25)).alloc (.cells #[.slice a1' L.length c1] 68)).alloc (.cells #[.slice a2' R.length c2] 68)) :=
    (((Below.refl _ w6).alloc (Nat.le_refl _) _).alloc (by simp) _).alloc (by simp; omega) _
  rw [World.size_alloc] at bA
  rw [World.size_alloc, World.size_alloc] at bB
  have hsz : (((w6.alloc (.cells #[.slice none 0 0] 25)).alloc (.cells #[.slice a1' L.length c1] 68)).alloc (.cells #[.slice a2' R.length c2] 68)).heap.size = w6.heap.size + 3 := by simp
  generalize (((w6.alloc (.cells #[.slice none 0 0] 25)).alloc (.cells #[.slice a1' L.length c1] 68)).alloc (.cells #[.slice a2' R.length c2] 68)) = W0 at *
  refine Rng.range4 (n := 3) (gf := 112) (lb := #[.pointer (some ⟨w6.heap.size + 1, 0, none⟩), .pointer (some ⟨w6.heap.size + 1 + 1, 0, none⟩)]) rfl (enters_of Tryd.func112 (by kernel_rfl) rfl)
    (pairs_itr (w6.heap.size + 1) (w6.heap.size + 1 + 1) a1' a2' L.length R.length c1 c2 L R hLl hRl hsr hsl (fun W => Boxed W (w6.heap.size + 1) 68 (.slice a1' L.length c1) ∧ Boxed W (w6.heap.size + 1 + 1) 68 (.slice a2' R.length c2) ∧ Rr W a1' L.length L ∧ Rr W a2' R.length R) (fun W h => h)) (fun _ => rfl)
    (fun pre W => (∃ v, Boxed W w6.heap.size 25 v ∧ W.ownsRow W0.heap.size 9 1 v pre.length (tcell pre) ∧ True) ∧ Boxed W (w6.heap.size + 1) 68 (.slice a1' L.length c1) ∧ Boxed W (w6.heap.size + 1 + 1) 68 (.slice a2' R.length c2) ∧ Below w6.heap.size w6 W)
    (fun _ _ _ => False)
    (fun o => ∃ cs f, o = .cells cs 9 f)
    (OwnFrom.and (Own.from (holdsRow_own W0.heap.size w6.heap.size 25 9 1 (fun pre : List (Rw × Rw) => pre.length) tcell (fun _ _ => True)) _) (OwnFrom.and (Own.from (boxed_own _ _ (fun _ => .slice a1' L.length c1)) _) (OwnFrom.and (Own.from (boxed_own _ _ (fun _ => .slice a2' R.length c2)) _) (ownFrom_below (Nat.le_refl _) (by omega)))))
    (fun _ _ _ _ _ h _ _ => h)
    (fun o ⟨cs, f, e⟩ => by rw [e]; rfl) (fun cs f ⟨cs', f', e⟩ => by injection e with _ h _; exact absurd h (by decide))
    (fun pre W h => ⟨h.2.1, h.2.2.1, (unhide R1).below h.2.2.2, (unhide R2).below h.2.2.2⟩)
    ⟨⟨_, bT, World.ownsRow_nil _ _ _ _, trivial⟩, bA, bB, hB0⟩
    (fun x W => { tmps := #[.slice a n ca, .slice b m cb, .int .i64 f, .int .i64 g, .int .u8 0, undef, undef, undef, undef, undef, .slice none 0 0, .int .i64 0, .string { data := #[32] }, .slice a1' L.length c1, .slice a2' R.length c2, .pointer (some ⟨w6.heap.size, 0, none⟩), .pointer (some ⟨W.heap.size, 0, none⟩), .pointer (some ⟨W.heap.size + 1, 0, none⟩), .int .i64 f, .bool false, .bool false, .int .i64 f, .bool false, .bool false, .bool false, .int .i64 g, .bool false, .bool false, .bool false, .int .i64 g, .bool false, .bool false, .bool false, .int .u8 0, .bool false, .bool false, .int .u8 0, .bool false, undef, undef, undef, .slice a n ca, .int .i64 f, .int .u8 0, .string { data := #[32] }, .slice a1' L.length c1, .slice b m cb, .int .i64 g, .int .u8 0, .string { data := #[32] }, .slice a2' R.length c2, .slice a1' L.length c1, .bool true, .bool false, .bool false, .slice a2' R.length c2, .bool true, .bool false, .bool false, .slice a1' L.length c1, .slice a2' R.length c2, .bool false, .slice a1' L.length c1, .slice a2' R.length c2, .func (.func 112) #[] #[.pointer (some ⟨w6.heap.size + 1, 0, none⟩), .pointer (some ⟨w6.heap.size + 1 + 1, 0, none⟩)], rv x.1, rv x.2, undef, undef, undef, undef, undef, undef, undef, undef, undef, undef, undef, undef], defers := [] })
    (fun x W => (W.alloc (.cells #[.string (bt x.1.1), .string (bt x.1.2)] 76)).alloc (.cells #[.string (bt x.2.1), .string (bt x.2.2)] 76))
    (fun x W => grown_two _ _ W) ?assign ?body ?done ?stop
  case assign =>
    intro m l x W K hK
    simp only [encP, fold2, List.setIfInBounds_toArray, List.set_cons_zero, List.set_cons_succ]
    unfold rv at hK ⊢
    gi_wp2
    exact hK
  case body =>
    rintro m l pre x W U ⟨⟨v, hv, hrow, _⟩, hA, hB', hBl⟩ hgU hpre hsW
    have hmem : x ∈ pairsP L R := hpre.subset (by simp)
    obtain ⟨hm1, hm2⟩ := pairs_mem hmem
    have s1 := (unhide hbl _ hm1).1
    have s2 := (unhide hbl _ hm1).2
    have s3 := (unhide hbr _ hm2).2
    have hlen : pre.length + 1 ≤ 65536 := by have := hpre.length_le; simp at this; omega
    obtain ⟨x1, x2, y2⟩ := two_cells x W U hgU (by omega)
    have hc := hv.cell
    have hf := hv.frozen
    have hUs : W0.heap.size ≤ U.heap.size := by have := hgU.size; rw [World.size_alloc, World.size_alloc] at this; omega
    clear hgU
    gi_wp2_with (gi_at_builtin; refine wpListIn_append_own _ rfl _ _ 25 rfl W0.heap.size 9 i0 _ 1 16 Tryd.underlying25 hi hz0 hz1 hz2 rfl (by decide) _ _ _ rfl (hrow.alloc _) ⟨U.heap.size, 0, none⟩ 1 1 [.string (bt x.1.1 ++ bt x.1.2 ++ bt x.2.2)] rfl rfl (byte_new _ _ _) (by simp [Value.oneCell']) (by unfold maxLen; omega) (by omega) (by simp; omega) ?_; intro v' w1 hown' hgrow _; obtain ⟨g', cap', rfl⟩ := Ln.ownsRow_some hown'; have hv1 := Ln.app_box hv (by omega) hrow hgrow; have hB1 := Ln.app_below hBl (by omega) (Nat.le_refl _) hrow hgrow; have hG := hide hgrow; clear hgrow; have hc1 := hv1.cell; have hf1 := hv1.frozen)
    have hA1 := Ln.app_box hA (by omega) hrow (unhide hG)
    have hB2 := Ln.app_box hB' (by omega) hrow (unhide hG)
    refine ⟨keeps_app hrow (unhide hG) (by omega), ⟨_, hv1.set _, ?_, trivial⟩, hA1.other (by omega) _, hB2.other (by omega) _, hB1.setCell (p := ⟨w6.heap.size, 0, none⟩) (Nat.le_refl _) _⟩
    rw [tcell_snoc, List.length_append]
    exact Ln.own_set hown' (by omega)
  case done =>
    rintro W hW ⟨⟨v, hv, hrow, _⟩, hA, hB', hBl⟩ hD
    have hc := hv.cell
    have hB9 : Below w.heap.size w W := (unhide B6).trans (hBl.mono (unhide B6).size)
    go_wp2_with fail
    have hrow2 := ownsRow_putObj hrow (.deferred none) hD rfl
    refine ⟨by simp, .inl ⟨_, _, rfl, run_takeDeferred hD, ?_⟩⟩
    refine ⟨_, results_tmp2 (fn := Tryd.f18) rfl _ _ _, v, by rw [unhide hJe]; rfl, ?_, hB9.trans (belowK_b (w := w) (Nat.le_refl _) _ _ _ _ (by have := (unhide B6).size; omega) hD rfl rfl)⟩
    rw [unhide hJe]
    show World.ownsRow _ _ _ _ _ _ _
    rw [List.length_map, List.map_map]
    exact Ln.own_base' (ownsRow_putObj hrow _ hD rfl) (by have := (unhide B6).size; omega)
  case stop =>
    rintro c pre W _ _ h _
    exact h.elim

set_option maxRecDepth 100000 in
set_option maxHeartbeats 4000000 in
theorem join_sep (a b : Option Addr) (n m ca cb ca' cb' : Nat) (A B : List ByteArray) (f g : Nat) (sep : UInt8) (w : World) (hTa : Tx w a n ca' A) (hTb : Tx w b m cb' B) (hn : n ≤ 1048577) (hm : m ≤ 1048577) (hA : ∀ s ∈ A, s.size ≤ 1048577) (hB : ∀ s ∈ B, s.size ≤ 1048577)
    (hf1 : 1 ≤ f) (hf2 : f ≤ 1000) (hg1 : 1 ≤ g) (hg2 : g ≤ 1000) (hsep : sep ≠ 10) (h0 : sep ≠ 0) :
    Calls Tryd.prog 18 #[.slice a n ca, .slice b m cb, .int .i64 f, .int .i64 g, .int .u8 (sep.toNat : Int)] w fun e w' => ∃ v, e = .returned (.tuple #[v, .int .i64 (joinP f g sep (txs A) (txs B)).2]) ∧ RowT w.heap.size v (joinP f g sep (txs A) (txs B)).1 w' ∧ Below w.heap.size w w' := by
  obtain ⟨i0, hi, hz0, hz1, hz2⟩ := info_parts Pa.Tryd.infoStr
  have a1 : ¬ (f : Int) < 1 := by omega
  have a2 : ¬ (1000 : Int) < (f : Int) := by omega
  have a3 : ¬ (g : Int) < 1 := by omega
  have a4 : ¬ (1000 : Int) < (g : Int) := by omega
  have hs10 : ¬ (sep.toNat : Int) = 10 := fun e => hsep (UInt8.toNat_inj.1 (by show sep.toNat = 10; omega))
  have hc : btwc sep = sep := by unfold btwc; rw [if_neg h0]
  have hs0 : ¬ (sep.toNat : Int) = 0 := fun e => h0 (UInt8.toNat_inj.1 (by show sep.toNat = 0; omega))
  have hcv := conv_one sep w
  have hJ : Hid (joinP f g sep (txs A) (txs B) = if sortedP (rowsP f sep sep (txs A)) = false ∨ sortedP (rowsP g sep sep (txs B)) = false then ([], 1)
      else if 65536 < (pairsP (rowsP f sep sep (txs A)) (rowsP g sep sep (txs B))).length then ([], 3)
      else ((pairsP (rowsP f sep sep (txs A)) (rowsP g sep sep (txs B))).map toldP, 0)) := by
    show _ = _
    unfold joinP
    rw [hc]
  have H1 : Hid (∀ W, Below w.heap.size w W → Calls Tryd.prog 66 #[.slice a n ca, .int .i64 f, .int .u8 (sep.toNat : Int), .string (bt [sep])] W fun e w' => ∃ v, e = .returned v ∧ RowR W.heap.size v (rowsP f sep sep (txs A)) w' ∧ Below W.heap.size W w') := fun W hW => rows_any a n ca ca' A f sep sep W (hTa.below hW) hn hA hf1 hf2
  have H2 : Hid (∀ W, Below w.heap.size w W → Calls Tryd.prog 66 #[.slice b m cb, .int .i64 g, .int .u8 (sep.toNat : Int), .string (bt [sep])] W fun e w' => ∃ v, e = .returned v ∧ RowR W.heap.size v (rowsP g sep sep (txs B)) w' ∧ Below W.heap.size W w') := fun W hW => rows_any b m cb cb' B g sep sep W (hTb.below hW) hm hB hg1 hg2
  have hbl := hide (rows_bound f sep sep A hA hf1)
  have hbr := hide (rows_bound g sep sep B hB hg1)
  have hLl : (rowsP f sep sep (txs A)).length ≤ 1048577 := by unfold rowsP; rw [List.length_map, List.length_map, hTa.len]; exact hn
  have hRl : (rowsP g sep sep (txs B)).length ≤ 1048577 := by unfold rowsP; rw [List.length_map, List.length_map, hTb.len]; exact hm
  generalize joinP f g sep (txs A) (txs B) = JP at *
  generalize rowsP f sep sep (txs A) = L at *
  generalize rowsP g sep sep (txs B) = R at *
  clear hTa hTb hA hB hc
  refine (callsIn_wide (n := 3)).1 ?_
  refine callsIn_of_wp_marks Tryd.func18 rfl trivial ?_ rfl
  simp only [Tryd.ntmps18, List.size_toArray, List.length_cons, List.length_nil, Nat.reduceAdd, Nat.reduceSub, Array.replicate_succ, Array.replicate_zero, List.push_toArray, List.append_toArray, List.nil_append, List.cons_append]
  refine wpIn_wide.2 ?_
  go_wp2_with fail
  have B1 : Hid (Below w.heap.size w (w.alloc (.cells #[.int .u8 (sep.toNat : Int)] 5))) := (Below.refl _ _).alloc (Nat.le_refl _) _
  refine (unhide H1 _ (unhide B1)).mono ?_
  rintro e w2 ⟨v1, rfl, hO1, b2⟩
  have B2 := hide ((unhide B1).trans (b2.mono (unhide B1).size))
  obtain ⟨a1', c1, rfl, hR1⟩ := rr_of_row hO1
  have R1 := hide hR1
  clear b2 hO1 hR1 B1 H1 hcv
  go_wp2_with fail
  refine (unhide H2 _ (unhide B2)).mono ?_
  rintro e w3 ⟨v2, rfl, hO2, b3⟩
  have B3 := hide ((unhide B2).trans (b3.mono (unhide B2).size))
  obtain ⟨a2', c2, rfl, hR2⟩ := rr_of_row hO2
  have R2 := hide hR2
  have R1 := hide ((unhide R1).below b3)
  have C1 := hide (inOrder_any a1' L.length c1 L w3 (unhide R1) hLl)
  clear b3 hO2 hR2 B2 H2
  go_wp2_with fail
  refine (unhide C1).mono ?_
  rintro e w4 ⟨rfl, b4⟩
  have B4 := hide ((unhide B3).trans (b4.mono (unhide B3).size))
  have R1 := hide ((unhide R1).below b4)
  have R2 := hide ((unhide R2).below b4)
  clear b4 B3 C1
  cases hsl : sortedP L
  · have hJe : Hid (JP = ([], 1)) := by show _ = _; rw [unhide hJ, if_pos (.inl hsl)]
    clear hJ
    go_wp2_with fail
    exact ⟨_, results_tmp2 (fn := Tryd.f18) rfl _ _ _, _, by rw [unhide hJe]; rfl, by rw [unhide hJe]; exact row_nil_t _ _, unhide B4⟩
  have C2 := hide (inOrder_any a2' R.length c2 R w4 (unhide R2) hRl)
  go_wp2_with fail
  refine (unhide C2).mono ?_
  rintro e w5 ⟨rfl, b5⟩
  have B5 := hide ((unhide B4).trans (b5.mono (unhide B4).size))
  have R1 := hide ((unhide R1).below b5)
  have R2 := hide ((unhide R2).below b5)
  clear b5 B4 C2
  cases hsr : sortedP R
  · have hJe : Hid (JP = ([], 1)) := by show _ = _; rw [unhide hJ, if_pos (.inr hsr)]
    clear hJ
    go_wp2_with fail
    exact ⟨_, results_tmp2 (fn := Tryd.f18) rfl _ _ _, _, by rw [unhide hJe]; rfl, by rw [unhide hJe]; exact row_nil_t _ _, unhide B5⟩
  have hJ : Hid (JP = if 65536 < (pairsP L R).length then ([], 3) else ((pairsP L R).map toldP, 0)) := by
    show _ = _
    rw [unhide hJ, if_neg (by rw [hsl, hsr]; simp)]
  have C3 := hide (tooMany_any a1' a2' L.length R.length c1 c2 L R w5 hLl hRl hsl hsr (unhide R1) (unhide R2))
  go_wp2_with fail
  refine (unhide C3).mono ?_
  rintro e w6 ⟨rfl, b6⟩
  have B6 := hide ((unhide B5).trans (b6.mono (unhide B5).size))
  have R1 := hide ((unhide R1).below b6)
  have R2 := hide ((unhide R2).below b6)
  clear b6 B5 C3
  by_cases hmany : 65536 < (pairsP L R).length
  · have hJe : Hid (JP = ([], 3)) := by show _ = _; rw [unhide hJ, if_pos hmany]
    rw [decide_eq_true hmany]
    clear hJ
    go_wp2_with fail
    exact ⟨_, results_tmp2 (fn := Tryd.f18) rfl _ _ _, _, by rw [unhide hJe]; rfl, by rw [unhide hJe]; exact row_nil_t _ _, unhide B6⟩
  have hJe : Hid (JP = ((pairsP L R).map toldP, 0)) := by show _ = _; rw [unhide hJ, if_neg hmany]
  rw [decide_eq_false hmany]
  have CP := hide (fun W => pairs_any a1' a2' L.length R.length c1 c2 W)
  clear hJ
  go_wp2_with fail
  refine (unhide CP _).mono ?_
  rintro e w7 ⟨rfl, rfl⟩
  go_wp2_with fail
  refine (wpIn_wide (n := 3)).1 ?_
  have bT := ((Boxed.new w6 25 (.slice none 0 0)).alloc (.cells #[.slice a1' L.length c1] 68)).alloc (.cells #[.slice a2' R.length c2] 68)
  have bA := (Boxed.new (w6.alloc (.cells #[.slice none 0 0] 25)) 68 (.slice a1' L.length c1)).alloc (.cells #[.slice a2' R.length c2] 68)
  have bB := Boxed.new ((w6.alloc (.cells #[.slice none 0 0] 25)).alloc (.cells #[.slice a1' L.length c1] 68)) 68 (.slice a2' R.length c2)
  have hB0 : Below w6.heap.size w6 (((w6.alloc (.cells #[.slice none 0 0] 25)).alloc (.cells #[.slice a1' L.length c1] 68)).alloc (.cells #[.slice a2' R.length c2] 68)) :=
    (((Below.refl _ w6).alloc (Nat.le_refl _) _).alloc (by simp) _).alloc (by simp; omega) _
  rw [World.size_alloc] at bA
  rw [World.size_alloc, World.size_alloc] at bB
  have hsz : (((w6.alloc (.cells #[.slice none 0 0] 25)).alloc (.cells #[.slice a1' L.length c1] 68)).alloc (.cells #[.slice a2' R.length c2] 68)).heap.size = w6.heap.size + 3 := by simp
  generalize (((w6.alloc (.cells #[.slice none 0 0] 25)).alloc (.cells #[.slice a1' L.length c1] 68)).alloc (.cells #[.slice a2' R.length c2] 68)) = W0 at *
  refine Rng.range4 (n := 3) (gf := 112) (lb := #[.pointer (some ⟨w6.heap.size + 1, 0, none⟩), .pointer (some ⟨w6.heap.size + 1 + 1, 0, none⟩)]) rfl (enters_of Tryd.func112 (by kernel_rfl) rfl)
    (pairs_itr (w6.heap.size + 1) (w6.heap.size + 1 + 1) a1' a2' L.length R.length c1 c2 L R hLl hRl hsr hsl (fun W => Boxed W (w6.heap.size + 1) 68 (.slice a1' L.length c1) ∧ Boxed W (w6.heap.size + 1 + 1) 68 (.slice a2' R.length c2) ∧ Rr W a1' L.length L ∧ Rr W a2' R.length R) (fun W h => h)) (fun _ => rfl)
    (fun pre W => (∃ v, Boxed W w6.heap.size 25 v ∧ W.ownsRow W0.heap.size 9 1 v pre.length (tcell pre) ∧ True) ∧ Boxed W (w6.heap.size + 1) 68 (.slice a1' L.length c1) ∧ Boxed W (w6.heap.size + 1 + 1) 68 (.slice a2' R.length c2) ∧ Below w6.heap.size w6 W)
    (fun _ _ _ => False)
    (fun o => ∃ cs f, o = .cells cs 9 f)
    (OwnFrom.and (Own.from (holdsRow_own W0.heap.size w6.heap.size 25 9 1 (fun pre : List (Rw × Rw) => pre.length) tcell (fun _ _ => True)) _) (OwnFrom.and (Own.from (boxed_own _ _ (fun _ => .slice a1' L.length c1)) _) (OwnFrom.and (Own.from (boxed_own _ _ (fun _ => .slice a2' R.length c2)) _) (ownFrom_below (Nat.le_refl _) (by omega)))))
    (fun _ _ _ _ _ h _ _ => h)
    (fun o ⟨cs, f, e⟩ => by rw [e]; rfl) (fun cs f ⟨cs', f', e⟩ => by injection e with _ h _; exact absurd h (by decide))
    (fun pre W h => ⟨h.2.1, h.2.2.1, (unhide R1).below h.2.2.2, (unhide R2).below h.2.2.2⟩)
    ⟨⟨_, bT, World.ownsRow_nil _ _ _ _, trivial⟩, bA, bB, hB0⟩
    (fun x W => { tmps := #[.slice a n ca, .slice b m cb, .int .i64 f, .int .i64 g, .int .u8 (sep.toNat : Int), undef, undef, undef, undef, undef, .slice none 0 0, .int .i64 0, .string (bt [sep]), .slice a1' L.length c1, .slice a2' R.length c2, .pointer (some ⟨w6.heap.size, 0, none⟩), .pointer (some ⟨W.heap.size, 0, none⟩), .pointer (some ⟨W.heap.size + 1, 0, none⟩), .int .i64 f, .bool false, .bool false, .int .i64 f, .bool false, .bool false, .bool false, .int .i64 g, .bool false, .bool false, .bool false, .int .i64 g, .bool false, .bool false, .bool false, .int .u8 (sep.toNat : Int), .bool false, .bool false, .int .u8 (sep.toNat : Int), .bool true, .int .u8 (sep.toNat : Int), .slice (some ⟨w.heap.size, 0, none⟩) 1 1, .string (bt [sep]), .slice a n ca, .int .i64 f, .int .u8 (sep.toNat : Int), .string (bt [sep]), .slice a1' L.length c1, .slice b m cb, .int .i64 g, .int .u8 (sep.toNat : Int), .string (bt [sep]), .slice a2' R.length c2, .slice a1' L.length c1, .bool true, .bool false, .bool false, .slice a2' R.length c2, .bool true, .bool false, .bool false, .slice a1' L.length c1, .slice a2' R.length c2, .bool false, .slice a1' L.length c1, .slice a2' R.length c2, .func (.func 112) #[] #[.pointer (some ⟨w6.heap.size + 1, 0, none⟩), .pointer (some ⟨w6.heap.size + 1 + 1, 0, none⟩)], rv x.1, rv x.2, undef, undef, undef, undef, undef, undef, undef, undef, undef, undef, undef, undef], defers := [] })
    (fun x W => (W.alloc (.cells #[.string (bt x.1.1), .string (bt x.1.2)] 76)).alloc (.cells #[.string (bt x.2.1), .string (bt x.2.2)] 76))
    (fun x W => grown_two _ _ W) ?assign ?body ?done ?stop
  case assign =>
    intro m l x W K hK
    simp only [encP, fold2, List.setIfInBounds_toArray, List.set_cons_zero, List.set_cons_succ]
    unfold rv at hK ⊢
    gi_wp2
    exact hK
  case body =>
    rintro m l pre x W U ⟨⟨v, hv, hrow, _⟩, hA, hB', hBl⟩ hgU hpre hsW
    have hmem : x ∈ pairsP L R := hpre.subset (by simp)
    obtain ⟨hm1, hm2⟩ := pairs_mem hmem
    have s1 := (unhide hbl _ hm1).1
    have s2 := (unhide hbl _ hm1).2
    have s3 := (unhide hbr _ hm2).2
    have hlen : pre.length + 1 ≤ 65536 := by have := hpre.length_le; simp at this; omega
    obtain ⟨x1, x2, y2⟩ := two_cells x W U hgU (by omega)
    have hc := hv.cell
    have hf := hv.frozen
    have hUs : W0.heap.size ≤ U.heap.size := by have := hgU.size; rw [World.size_alloc, World.size_alloc] at this; omega
    clear hgU
    gi_wp2_with (gi_at_builtin; refine wpListIn_append_own _ rfl _ _ 25 rfl W0.heap.size 9 i0 _ 1 16 Tryd.underlying25 hi hz0 hz1 hz2 rfl (by decide) _ _ _ rfl (hrow.alloc _) ⟨U.heap.size, 0, none⟩ 1 1 [.string (bt x.1.1 ++ bt x.1.2 ++ bt x.2.2)] rfl rfl (byte_new _ _ _) (by simp [Value.oneCell']) (by unfold maxLen; omega) (by omega) (by simp; omega) ?_; intro v' w1 hown' hgrow _; obtain ⟨g', cap', rfl⟩ := Ln.ownsRow_some hown'; have hv1 := Ln.app_box hv (by omega) hrow hgrow; have hB1 := Ln.app_below hBl (by omega) (Nat.le_refl _) hrow hgrow; have hG := hide hgrow; clear hgrow; have hc1 := hv1.cell; have hf1 := hv1.frozen)
    have hA1 := Ln.app_box hA (by omega) hrow (unhide hG)
    have hB2 := Ln.app_box hB' (by omega) hrow (unhide hG)
    refine ⟨keeps_app hrow (unhide hG) (by omega), ⟨_, hv1.set _, ?_, trivial⟩, hA1.other (by omega) _, hB2.other (by omega) _, hB1.setCell (p := ⟨w6.heap.size, 0, none⟩) (Nat.le_refl _) _⟩
    rw [tcell_snoc, List.length_append]
    exact Ln.own_set hown' (by omega)
  case done =>
    rintro W hW ⟨⟨v, hv, hrow, _⟩, hA, hB', hBl⟩ hD
    have hc := hv.cell
    have hB9 : Below w.heap.size w W := (unhide B6).trans (hBl.mono (unhide B6).size)
    go_wp2_with fail
    have hrow2 := ownsRow_putObj hrow (.deferred none) hD rfl
    refine ⟨by simp, .inl ⟨_, _, rfl, run_takeDeferred hD, ?_⟩⟩
    refine ⟨_, results_tmp2 (fn := Tryd.f18) rfl _ _ _, v, by rw [unhide hJe]; rfl, ?_, hB9.trans (belowK_b (w := w) (Nat.le_refl _) _ _ _ _ (by have := (unhide B6).size; omega) hD rfl rfl)⟩
    rw [unhide hJe]
    show World.ownsRow _ _ _ _ _ _ _
    rw [List.length_map, List.map_map]
    exact Ln.own_base' (ownsRow_putObj hrow _ hD rfl) (by have := (unhide B6).size; omega)
  case stop =>
    rintro c pre W _ _ h _
    exact h.elim

set_option maxHeartbeats 1000000 in
theorem join_bad (a b : Option Addr) (n m ca cb : Nat) (f g : Int) (sep : UInt8) (w : World) (h : f < 1 ∨ 1000 < f ∨ g < 1 ∨ 1000 < g ∨ sep = 10) :
    Calls Tryd.prog 18 #[.slice a n ca, .slice b m cb, .int .i64 f, .int .i64 g, .int .u8 (sep.toNat : Int)] w fun e w' => e = .returned (.tuple #[.slice none 0 0, .int .i64 1]) ∧ w' = w := by
  refine (callsIn_wide (n := 3)).1 ?_
  refine callsIn_of_wp_marks Tryd.func18 rfl trivial ?_ rfl
  simp only [Tryd.ntmps18, List.size_toArray, List.length_cons, List.length_nil, Nat.reduceAdd, Nat.reduceSub, Array.replicate_succ, Array.replicate_zero, List.push_toArray, List.append_toArray, List.nil_append, List.cons_append]
  refine wpIn_wide.2 ?_
  by_cases h1 : f < 1
  · go_wp2_with fail
    exact ⟨_, results_tmp2 (fn := Tryd.f18) rfl _ _ _, rfl, rfl⟩
  by_cases h2 : 1000 < f
  · go_wp2_with fail
    exact ⟨_, results_tmp2 (fn := Tryd.f18) rfl _ _ _, rfl, rfl⟩
  by_cases h3 : g < 1
  · go_wp2_with fail
    exact ⟨_, results_tmp2 (fn := Tryd.f18) rfl _ _ _, rfl, rfl⟩
  by_cases h4 : 1000 < g
  · go_wp2_with fail
    exact ⟨_, results_tmp2 (fn := Tryd.f18) rfl _ _ _, rfl, rfl⟩
  obtain rfl : sep = 10 := by
    rcases h with h | h | h | h | h
    · exact absurd h h1
    · exact absurd h h2
    · exact absurd h h3
    · exact absurd h h4
    · exact h
  have h5 : (((10 : UInt8).toNat : Nat) : Int) = 10 := rfl
  rw [h5]
  go_wp2_with fail
  exact ⟨_, results_tmp2 (fn := Tryd.f18) rfl _ _ _, rfl, rfl⟩
theorem join_any (a b : Option Addr) (n m ca cb ca' cb' : Nat) (A B : List ByteArray) (f g : Nat) (sep : UInt8) (w : World) (hTa : Tx w a n ca' A) (hTb : Tx w b m cb' B) (hn : n ≤ 1048577) (hm : m ≤ 1048577) (hA : ∀ s ∈ A, s.size ≤ 1048577) (hB : ∀ s ∈ B, s.size ≤ 1048577)
    (hf1 : 1 ≤ f) (hf2 : f ≤ 1000) (hg1 : 1 ≤ g) (hg2 : g ≤ 1000) (hsep : sep ≠ 10) :
    Calls Tryd.prog 18 #[.slice a n ca, .slice b m cb, .int .i64 f, .int .i64 g, .int .u8 (sep.toNat : Int)] w fun e w' => ∃ v, e = .returned (.tuple #[v, .int .i64 (joinP f g sep (txs A) (txs B)).2]) ∧ RowT w.heap.size v (joinP f g sep (txs A) (txs B)).1 w' ∧ Below w.heap.size w w' := by
  by_cases h0 : sep = 0
  · subst h0
    exact join_zero a b n m ca cb ca' cb' A B f g w hTa hTb hn hm hA hB hf1 hf2 hg1 hg2
  · exact join_sep a b n m ca cb ca' cb' A B f g sep w hTa hTb hn hm hA hB hf1 hf2 hg1 hg2 hsep h0
end Go.Proofs.YtjkajhnnoecjbaaDoor.Vw
