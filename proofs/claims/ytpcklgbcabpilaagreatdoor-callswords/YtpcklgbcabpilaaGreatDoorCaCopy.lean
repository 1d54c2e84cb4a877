import Derived.Test.YtpcklgbcabpilaaGreatDoorTrCheck
import Derived.Laws.CopyRow
import Derived.OwnWalk
/- What isNode, isDir, sizeOf, Stat and Sizes answer. -/
namespace Go.Proofs.YtpcklgbcabpilaaGreatDoor.Tr
open Go.RowKit Go.Proofs.YtpcklgbcabpilaaGreatDoor.Cu

/-- a tree that is not too great to be walked -/
structure Sm (ns : List Nd) : Prop where
  hn : ns.length ≤ 1000000
  hls : ∀ i, (nd ns i).list.length ≤ 1000000000
  hby : bytesP ns ns.length ≤ 1000000000
  hna : namesP ns ns.length ≤ 1000000000
theorem checkAny {a : Option Addr} {n cap : Nat} {ns : List Nd} (now : Int) {w : World} (h : Ng w a n cap ns) (hs : Sm ns) :
    Calls Tryz.prog 36 #[.agg #[.slice a n cap, .int .i64 now]] w fun e w' => e = .returned (.bool (checkP now ns)) ∧ Below w.heap.size w w' :=
  check_any a n cap ns now w h (by rw [← h.len]; exact hs.hn) hs.hls hs.hby hs.hna
theorem box_keep {w W : World} {c : Array Value} {e : TypeId} (hb : Below (w.alloc (.cells c e)).heap.size (w.alloc (.cells c e)) W) : W.heap[w.heap.size]? = some (.cells c e) ∧ Below w.heap.size w W ∧ w.heap.size < W.heap.size := by
  have h0 : Below w.heap.size w (w.alloc (.cells c e)) := (Below.refl _ _).alloc (Nat.le_refl _) _
  have hs : w.heap.size < (w.alloc (.cells c e)).heap.size := by simp
  exact ⟨(hb.block _ hs).trans (heap_alloc_new w _), h0.trans (hb.mono h0.size), Nat.lt_of_lt_of_le hs hb.size⟩
def nodeP (now : Int) (ns : List Nd) (i : Int) : Bool := checkP now ns && decide (0 < i) && decide (i < (ns.length : Int)) && decide ((nd ns i.toNat).kind ≠ 0)
def isDirP (now : Int) (ns : List Nd) (i : Int) : Bool := nodeP now ns i && decide ((nd ns i.toNat).kind = 2)
theorem checkP_two {now : Int} {ns : List Nd} (h : checkP now ns = true) : 2 ≤ ns.length := by
  unfold checkP rootP at h
  simp only [Bool.and_eq_true, decide_eq_true_eq] at h
  exact h.1.1.1.2.1.1.1.1.1
set_option maxRecDepth 100000 in
set_option maxHeartbeats 1000000 in
theorem isNode_any (a : Option Addr) (n cap : Nat) (ns : List Nd) (now i : Int) (w : World) (h : Ng w a n cap ns) (hs : Sm ns) :
    Calls Tryz.prog 172 #[.agg #[.slice a n cap, .int .i64 now], .int .i64 i] w fun e w' => e = .returned (.bool (nodeP now ns i)) ∧ Below w.heap.size w w' := by
  have HC : Hid (∀ W, Below w.heap.size w W → Calls Tryz.prog 36 #[.agg #[.slice a n cap, .int .i64 now]] W fun e w' => e = .returned (.bool (checkP now ns)) ∧ Below W.heap.size W w') := fun W hW => checkAny now (h.below hW) hs
  have hlen := h.len
  have hQ : Hid (checkP now ns = true → 2 ≤ n) := fun q => by rw [← hlen]; exact checkP_two q
  have hP : nodeP now ns i = (checkP now ns && decide (0 < i) && decide (i < (n : Int)) && decide ((nd ns i.toNat).kind ≠ 0)) := by unfold nodeP; rw [hlen]
  rw [hP]
  clear hP hlen hs
  have HG := hide h
  clear h
  generalize checkP now ns = q at *
  have hb0 : Hid (Below w.heap.size w (w.alloc (.cells #[.slice a n cap, .int .i64 now] 24))) := (Below.refl _ _).alloc (Nat.le_refl _) _
  cases q with
  | false =>
    simp only [Bool.false_and]
    go_enter Tryz.func172, Tryz.ntmps172
    go_wp2_with fail
    refine (unhide HC _ (unhide hb0)).mono ?_
    rintro e w1 ⟨rfl, b1⟩
    have hB := hide (box_keep b1).2.1
    clear b1 HC HG
    go_wp2
    go_ret
    exact ⟨rfl, unhide hB⟩
  | true =>
    rw [Bool.true_and]
    have h2 := unhide hQ rfl
    by_cases a1 : 0 < i
    case neg =>
      rw [show decide (0 < i) = false by simp [a1]]
      simp only [Bool.false_and]
      go_enter Tryz.func172, Tryz.ntmps172
      go_wp2_with fail
      refine (unhide HC _ (unhide hb0)).mono ?_
      rintro e w1 ⟨rfl, b1⟩
      have hB := hide (box_keep b1).2.1
      clear b1 HC HG
      go_wp2
      go_ret
      exact ⟨rfl, unhide hB⟩
    rw [show decide (0 < i) = true by simp [a1], Bool.true_and]
    by_cases a2 : i < (n : Int)
    case neg =>
      rw [show decide (i < (n : Int)) = false by simp [a2]]
      simp only [Bool.false_and]
      go_enter Tryz.func172, Tryz.ntmps172
      go_wp2_with fail
      refine (unhide HC _ (unhide hb0)).mono ?_
      rintro e w1 ⟨rfl, b1⟩
      have hB := hide (box_keep b1).2.1
      have c0 : w1.cell? ⟨w.heap.size, 0, none⟩ = some (.slice a n cap) := by rw [cell_of_row _ _ _ _ _ _ (box_keep b1).1]; rfl
      clear b1 HC HG
      go_wp2
      go_ret
      exact ⟨rfl, unhide hB⟩
    rw [show decide (i < (n : Int)) = true by simp [a2], Bool.true_and]
    obtain ⟨k, rfl⟩ : ∃ k : Nat, i = (k : Int) := ⟨i.toNat, by omega⟩
    rw [Int.toNat_natCast]
    have hkn : k < n := by omega
    rcases (unhide HG).cells with h0 | ⟨b, off, rfl, hb, hc⟩
    · omega
    have HX : Hid (∀ W, Below w.heap.size w W → W.cell? ⟨b, off + k * 10, none⟩ = some (.int .u8 (nd ns k).kind.toNat)) := fun W hW => by
      obtain ⟨_, _, _, _, q, -, -⟩ := (hc k hkn).below hb hW
      exact q.c0
    clear hc HG
    by_cases a3 : (nd ns k).kind = 0
    · rw [a3] at HX ⊢
      go_enter Tryz.func172, Tryz.ntmps172
      go_wp2_with fail
      refine (unhide HC _ (unhide hb0)).mono ?_
      rintro e w1 ⟨rfl, b1⟩
      have hB := hide (box_keep b1).2.1
      have c0 : w1.cell? ⟨w.heap.size, 0, none⟩ = some (.slice (some ⟨b, off, none⟩) n cap) := by rw [cell_of_row _ _ _ _ _ _ (box_keep b1).1]; rfl
      have cx : w1.cell? ⟨b, off + k * 10, none⟩ = some (.int .u8 0) := unhide HX w1 (unhide hB)
      clear b1 HC HX
      go_wp2
      go_ret
      exact ⟨rfl, unhide hB⟩
    · rw [show decide ((nd ns k).kind ≠ 0) = true by simp [a3]]
      have a4 : ¬ ((nd ns k).kind.toNat : Int) = 0 := fun e => a3 (UInt8.toNat_inj.1 (by simpa using e))
      generalize (nd ns k).kind.toNat = kn at *
      go_enter Tryz.func172, Tryz.ntmps172
      go_wp2_with fail
      refine (unhide HC _ (unhide hb0)).mono ?_
      rintro e w1 ⟨rfl, b1⟩
      have hB := hide (box_keep b1).2.1
      have c0 : w1.cell? ⟨w.heap.size, 0, none⟩ = some (.slice (some ⟨b, off, none⟩) n cap) := by rw [cell_of_row _ _ _ _ _ _ (box_keep b1).1]; rfl
      have cx := unhide HX w1 (unhide hB)
      clear b1 HC HX
      go_wp2
      go_ret
      exact ⟨by simp; omega, unhide hB⟩
set_option maxRecDepth 100000 in
set_option maxHeartbeats 1000000 in
theorem isDir_any (a : Option Addr) (n cap : Nat) (ns : List Nd) (now i : Int) (w : World) (h : Ng w a n cap ns) (hs : Sm ns) :
    Calls Tryz.prog 112 #[.agg #[.slice a n cap, .int .i64 now], .int .i64 i] w fun e w' => e = .returned (.bool (isDirP now ns i)) ∧ Below w.heap.size w w' := by
  have HC : Hid (∀ W, Below w.heap.size w W → Calls Tryz.prog 172 #[.agg #[.slice a n cap, .int .i64 now], .int .i64 i] W fun e w' => e = .returned (.bool (nodeP now ns i)) ∧ Below W.heap.size W w') := fun W hW => isNode_any a n cap ns now i W (h.below hW) hs
  have hlen := h.len
  have hQ : Hid (nodeP now ns i = true → 0 < i ∧ i < (n : Int)) := fun q => by
    unfold nodeP at q
    simp only [Bool.and_eq_true, decide_eq_true_eq] at q
    exact ⟨q.1.1.2, by rw [← hlen]; exact q.1.2⟩
  unfold isDirP
  clear hlen hs
  have HG := hide h
  clear h
  generalize nodeP now ns i = q at *
  have hb0 : Hid (Below w.heap.size w (w.alloc (.cells #[.slice a n cap, .int .i64 now] 24))) := (Below.refl _ _).alloc (Nat.le_refl _) _
  cases q with
  | false =>
    simp only [Bool.false_and]
    go_enter Tryz.func112, Tryz.ntmps112
    go_wp2_with fail
    refine (unhide HC _ (unhide hb0)).mono ?_
    rintro e w1 ⟨rfl, b1⟩
    have hB := hide (box_keep b1).2.1
    clear b1 HC HG
    go_wp2
    go_ret
    exact ⟨rfl, unhide hB⟩
  | true =>
    rw [Bool.true_and]
    obtain ⟨a1, a2⟩ := unhide hQ rfl
    obtain ⟨k, rfl⟩ : ∃ k : Nat, i = (k : Int) := ⟨i.toNat, by omega⟩
    rw [Int.toNat_natCast]
    have hkn : k < n := by omega
    rcases (unhide HG).cells with h0 | ⟨b, off, rfl, hb, hc⟩
    · omega
    have HX : Hid (∀ W, Below w.heap.size w W → W.cell? ⟨b, off + k * 10, none⟩ = some (.int .u8 (nd ns k).kind.toNat)) := fun W hW => by
      obtain ⟨_, _, _, _, q, -, -⟩ := (hc k hkn).below hb hW
      exact q.c0
    clear hc HG
    by_cases a3 : (nd ns k).kind = 2
    · rw [a3] at HX ⊢
      go_enter Tryz.func112, Tryz.ntmps112
      go_wp2_with fail
      refine (unhide HC _ (unhide hb0)).mono ?_
      rintro e w1 ⟨rfl, b1⟩
      have hB := hide (box_keep b1).2.1
      have c0 : w1.cell? ⟨w.heap.size, 0, none⟩ = some (.slice (some ⟨b, off, none⟩) n cap) := by rw [cell_of_row _ _ _ _ _ _ (box_keep b1).1]; rfl
      have cx : w1.cell? ⟨b, off + k * 10, none⟩ = some (.int .u8 2) := unhide HX w1 (unhide hB)
      clear b1 HC HX
      go_wp2
      go_ret
      exact ⟨rfl, unhide hB⟩
    · rw [show decide ((nd ns k).kind = 2) = false by simp [a3]]
      have a4 : ¬ ((nd ns k).kind.toNat : Int) = 2 := fun e => a3 (UInt8.toNat_inj.1 (by show (nd ns k).kind.toNat = 2; omega))
      generalize (nd ns k).kind.toNat = kn at *
      go_enter Tryz.func112, Tryz.ntmps112
      go_wp2_with fail
      refine (unhide HC _ (unhide hb0)).mono ?_
      rintro e w1 ⟨rfl, b1⟩
      have hB := hide (box_keep b1).2.1
      have c0 : w1.cell? ⟨w.heap.size, 0, none⟩ = some (.slice (some ⟨b, off, none⟩) n cap) := by rw [cell_of_row _ _ _ _ _ _ (box_keep b1).1]; rfl
      have cx := unhide HX w1 (unhide hB)
      clear b1 HC HX
      go_wp2
      go_ret
      exact ⟨by simp; omega, unhide hB⟩
end Go.Proofs.YtpcklgbcabpilaaGreatDoor.Tr

/- Nodes in a row of one's own. -/
namespace Go.Proofs.YtpcklgbcabpilaaGreatDoor.Tr
open Go.RowKit Go.Proofs.YtpcklgbcabpilaaGreatDoor.Cu

/-- a node with the values of its data and its list -/
abbrev Nv := Nd × Value × Value
abbrev zNv : Nv := (nz, .slice none 0 0, .slice none 0 0)
def cellsOf (l : List Nv) : List Value := l.flatMap fun x => nc x.1 x.2.1 x.2.2
theorem nc_length (n : Nd) (d e : Value) : (nc n d e).length = 10 := rfl
theorem cellsOf_length (l : List Nv) : (cellsOf l).length = l.length * 10 := by
  induction l with
  | nil => rfl
  | cons r l ih => simp [cellsOf, nc] at ih ⊢; omega
theorem cellsOf_snoc (l : List Nv) (x : Nv) : cellsOf (l ++ [x]) = cellsOf l ++ nc x.1 x.2.1 x.2.2 := by simp [cellsOf]
theorem cellsOf_get (l : List Nv) (i j : Nat) (h : i < l.length) (hj : j < 10) : (cellsOf l)[i * 10 + j]? = (nc (l.getD i zNv).1 (l.getD i zNv).2.1 (l.getD i zNv).2.2)[j]? := by
  induction l generalizing i with
  | nil => simp at h
  | cons r l ih =>
    have e : cellsOf (r :: l) = nc r.1 r.2.1 r.2.2 ++ cellsOf l := by simp [cellsOf]
    rw [e]
    cases i with
    | zero => rw [List.getElem?_append_left (by rw [nc_length]; omega)]; simp
    | succ i =>
      rw [List.getElem?_append_right (by rw [nc_length]; omega), nc_length, show (i + 1) * 10 + j - 10 = i * 10 + j by omega, ih i (by simpa using h)]
      simp
/-- what a node holds is there -/
def Ox (w : World) (x : Nv) : Prop := ∃ da dc la lc, x.2.1 = .slice da x.1.data.length dc ∧ x.2.2 = .slice la x.1.list.length lc ∧ By w da x.1.data.length dc x.1.data ∧ Eg w la x.1.list.length lc x.1.list
theorem Ox.below {w w' : World} {x : Nv} (h : Ox w x) (hb : Below w.heap.size w w') : Ox w' x := by
  obtain ⟨da, dc, la, lc, h1, h2, h3, h4⟩ := h
  exact ⟨da, dc, la, lc, h1, h2, h3.below hb, h4.below hb⟩
theorem add_none (b off j : Nat) : (⟨b, off, none⟩ : Addr).add j = ⟨b, off + j, none⟩ := by unfold Addr.add; split <;> simp_all
theorem nd_map (l : List Nv) (i : Nat) (h : i < l.length) : nd (l.map (·.1)) i = (l.getD i zNv).1 := by
  unfold nd; simp [List.getD, h]
/-- the cells of a node in a row -/
theorem own_node {w : World} {base g n cap : Nat} {l : List Nv} {xs : List Value} (h : w.ownsRow base 82 10 (.slice (some ⟨g, 0, none⟩) n cap) n xs) (i : Nat) (hi : i < l.length) (hx : ∀ j, j < 10 → xs[i * 10 + j]? = (cellsOf l)[i * 10 + j]?) :
    N10 w g (i * 10) (l.getD i zNv).1 (l.getD i zNv).2.1 (l.getD i zNv).2.2 := by
  refine N10.at fun j u hj => ?_
  have hj5 : j < 10 := by rw [← nc_length (l.getD i zNv).1 (l.getD i zNv).2.1 (l.getD i zNv).2.2]; exact (List.getElem?_eq_some_iff.1 hj).1
  have h1 := h.cells (g := g) rfl (i * 10 + j) u (by rw [hx j hj5, cellsOf_get l i j hi hj5]; exact hj)
  rw [add_none, Nat.zero_add] at h1
  exact h1
theorem ng_of_own {w : World} {base : Nat} {v : Value} {l : List Nv} (h : w.ownsRow base 82 10 v l.length (cellsOf l)) (ho : ∀ x ∈ l, Ox w x) : ∃ a cap, v = .slice a l.length cap ∧ Ng w a l.length cap (l.map (·.1)) := by
  rcases h.2 with ⟨hv, hn⟩ | ⟨g, cap, cur, hv, hb, hg, hle, rest⟩
  · exact ⟨none, 0, by rw [hv, hn], by simp, by omega, fun _ => ⟨hn, rfl⟩, .inl hn⟩
  · subst hv
    refine ⟨some ⟨g, 0, none⟩, cap, rfl, by simp, hle, (by intro h; cases h), .inr ⟨g, 0, rfl, (Array.getElem?_eq_some_iff.1 hg).1, fun i hi => ?_⟩⟩
    rw [nd_map l i hi, Nat.zero_add]
    have h10 := own_node h i hi (fun _ _ => rfl)
    have hm : l.getD i zNv ∈ l := by simp [List.getD, List.getElem?_eq_getElem hi]
    obtain ⟨da, dc, la, lc, h1, h2, h3, h4⟩ := ho _ hm
    rw [h1, h2] at h10
    exact ⟨da, dc, la, lc, h10, h3, h4⟩
theorem by_nil (w : World) : By w none 0 0 [] := ⟨rfl, Nat.le_refl _, fun _ => ⟨rfl, rfl⟩, .inl rfl⟩
theorem eg_nil (w : World) : Eg w none 0 0 [] := ⟨rfl, Nat.le_refl _, fun _ => ⟨rfl, rfl⟩, .inl rfl⟩
end Go.Proofs.YtpcklgbcabpilaaGreatDoor.Tr

/- Lists copied into new memory: the walk's law for copy at elements of several cells, and what copyOf answers. -/
namespace Go.Proofs.YtpcklgbcabpilaaGreatDoor.Ca
open Go.RowKit Go.Proofs.YtpcklgbcabpilaaGreatDoor.Cu Go.Proofs.YtpcklgbcabpilaaGreatDoor.Tr

theorem infoE : (Tryz.prog.info? 116).map (fun i => (i.zero, i.size, i.bytes)) = some (some (.agg #[.string ⟨#[]⟩, .int .i64 0]), 2, 24) := by kernel_rfl
theorem infoN : (Tryz.prog.info? 82).map (fun i => (i.zero, i.size, i.bytes)) = some (some (.agg (na nz (.slice none 0 0) (.slice none 0 0))), 10, 120) := by kernel_rfl
/-- copy of so many elements of s cells each into a row that is known whole -/
theorem run_copy_sz {P : Program} (w : World) (dT sT ty elem : TypeId) (s g o dLen dCap : Nat) (a : Addr) (sLen sCap : Nat) (cur : Array Value) (t : TypeId) (cs : List Value)
    (hu : P.underlying dT = some (.slice elem)) (hs : (P.info? elem).map (·.size) = some s) (hg : w.heap[g]? = some (.cells cur t (0, 0))) (hn : cs.length = Nat.min sLen dLen * s)
    (hsrc : ∀ j v, cs[j]? = some v → w.cell? (a.add j) = some v) (hfit : o + cs.length ≤ cur.size) (h1 : ∀ v ∈ cs, v.oneCell' = true) :
    (Builtin.copy_ #[dT, sT] ty #[.slice (some ⟨g, o, none⟩) dLen dCap, .slice (some a) sLen sCap]).run P w = .ok (goInt (Nat.min sLen dLen)) (w.setRow g (cur.toList.take o ++ cs ++ cur.toList.drop (o + cs.length)).toArray) := by
  have hl := run_loadCells_list (P := P) w a cs hsrc
  have hst := run_storeCells_at P g o t cs 0 cur w hg (by simpa using hfit) h1
  cases hq : P.info? elem with
  | none => simp [hq] at hs
  | some i =>
    have hi : i.size = s := by simpa [hq] using hs
    simp [Builtin.copy_, run_underlying hu, Builtin.lenOf, Builtin.firstCells, sizeOf, typeInfo, hq, hi, ← hn, hl, hst]
/-- a row that was made and then filled whole -/
theorem filled {P : Program} {w w1 : World} {T e ty : TypeId} {z n : Nat} {xs ys : List Value} (hu : P.underlying T = some (.slice e)) (hsz : (P.info? e).map (·.size) = some z) (h : w1.ownsRow w.heap.size e z (.slice (some ⟨w.heap.size, 0, none⟩) n n) n xs) (hb : Below w.heap.size w w1) (hy : ys.length = n * z) (b off cap : Nat)
    (hs : ∀ j v, ys[j]? = some v → w1.cell? ⟨b, off + j, none⟩ = some v) (h1y : ∀ v ∈ ys, v.oneCell' = true) :
    ∃ w2, (Builtin.copy_ #[T, T] ty #[.slice (some ⟨w.heap.size, 0, none⟩) n n, .slice (some ⟨b, off, none⟩) n cap]).run P w1 = .ok (goInt n) w2 ∧ w2.ownsRow w.heap.size e z (.slice (some ⟨w.heap.size, 0, none⟩) n n) n ys ∧ Below w.heap.size w w2 := by
  rcases h.2 with ⟨h0, _⟩ | ⟨g, cap', cur, hv, hg0, hg, h1, h2, h3, h4⟩
  · simp at h0
  · simp at hv
    obtain ⟨rfl, rfl⟩ := hv
    have hc : (cur.toList.take 0 ++ ys ++ cur.toList.drop (0 + ys.length)) = ys := by
      rw [List.take_zero, List.nil_append, Nat.zero_add, List.drop_eq_nil_of_le (by simp; omega), List.append_nil]
    have hm : Nat.min n n = n := Nat.min_self n
    have hr := run_copy_sz (P := P) w1 T T ty e z w.heap.size 0 n n ⟨b, off, none⟩ n cap cur e ys hu hsz hg (by rw [hm]; exact hy) (fun j v hj => by rw [add_none]; exact hs j v hj) (by omega) h1y
    rw [hc, hm] at hr
    refine ⟨_, hr, ⟨hy, .inr ⟨_, n, ys.toArray, rfl, Nat.le_refl _, setRow_heap w1 _ cur _ e _ hg, Nat.le_refl _, h2, by simpa using hy, by rw [List.take_of_length_le (by simp [hy])]⟩⟩, ?_⟩
    exact hb.trans ⟨rfl, rfl, rfl, by simp [World.setRow], fun k hk => setRow_other w1 _ k _ (by omega)⟩
set_option maxRecDepth 100000 in
set_option maxHeartbeats 1000000 in
theorem copyByte_any (a : Option Addr) (n cap : Nat) (xs : List Value) (w : World) (hx : xs.length = n * 1) (hn : n ≤ 100000000) (h1 : ∀ v ∈ xs, v.oneCell' = true) (h : n = 0 ∨ ∃ b off, a = some ⟨b, off, none⟩ ∧ b < w.heap.size ∧ ∀ j v, xs[j]? = some v → w.cell? ⟨b, off + j, none⟩ = some v) :
    Calls Tryz.prog 96 #[.slice a n cap] w fun e w' => (∃ v, e = .returned v ∧ w'.ownsRow w.heap.size 5 1 v n xs) ∧ Below w.heap.size w w' := by
  obtain ⟨i0, hi, hz0, hz1, hz2⟩ := info_parts Tryz.infoByte
  have hsz : (Tryz.prog.info? 5).map (·.size) = some 1 := by rw [hi]; simp [hz1]
  rcases Nat.eq_zero_or_pos n with rfl | hp
  · obtain rfl : xs = [] := List.eq_nil_of_length_eq_zero (by omega)
    go_enter Tryz.func96, Tryz.ntmps96
    go_wp2
    go_ret
    exact ⟨⟨_, rfl, World.ownsRow_nil _ _ _ _⟩, Below.refl _ _⟩
  · rcases h with h0 | ⟨b, off, rfl, hb, hc⟩
    · omega
    have hn0 : ¬ ((n : Int) = 0) := by omega
    have HC := hide hc
    have HX := hide hx
    have H1 := hide h1
    clear hc hx h1
    go_enter Tryz.func96, Tryz.ntmps96
    go_wp2_with (at_make; refine wpList_make_full _ rfl _ _ 30 rfl w.heap.size 5 i0 _ 1 Tryz.underlying30 hi hz0 hz1 _ _ _ _ n rfl rfl rfl rfl (by rw [hz2]; omega) (by unfold maxLen; omega) (Nat.le_refl _) ?_; intro w1 hown1 hgrow1; have hb1 : Below w.heap.size w w1 := (Below.refl _ _).grown hgrow1 (Nat.le_refl _) (by simp); obtain ⟨w2, hcp, HO, HB⟩ := filled (P := Tryz.prog) (ty := 3) Tryz.underlying30 hsz hown1 hb1 (unhide HX) b off cap (fun j v hj => (hb1.cell hb).trans (unhide HC j v hj)) (unhide H1); replace HO := hide HO; replace HB := hide HB; clear hown1 hgrow1 hb1)
    go_ret
    exact ⟨⟨_, rfl, unhide HO⟩, unhide HB⟩
set_option maxRecDepth 100000 in
set_option maxHeartbeats 1000000 in
theorem copyEnt_any (a : Option Addr) (n cap : Nat) (xs : List Value) (w : World) (hx : xs.length = n * 2) (hn : n ≤ 100000000) (h1 : ∀ v ∈ xs, v.oneCell' = true) (h : n = 0 ∨ ∃ b off, a = some ⟨b, off, none⟩ ∧ b < w.heap.size ∧ ∀ j v, xs[j]? = some v → w.cell? ⟨b, off + j, none⟩ = some v) :
    Calls Tryz.prog 246 #[.slice a n cap] w fun e w' => (∃ v, e = .returned v ∧ w'.ownsRow w.heap.size 116 2 v n xs) ∧ Below w.heap.size w w' := by
  obtain ⟨i0, hi, hz0, hz1, hz2⟩ := info_parts infoE
  have hsz : (Tryz.prog.info? 116).map (·.size) = some 2 := by rw [hi]; simp [hz1]
  rcases Nat.eq_zero_or_pos n with rfl | hp
  · obtain rfl : xs = [] := List.eq_nil_of_length_eq_zero (by omega)
    go_enter Tryz.func246, Tryz.ntmps246
    go_wp2
    go_ret
    exact ⟨⟨_, rfl, World.ownsRow_nil _ _ _ _⟩, Below.refl _ _⟩
  · rcases h with h0 | ⟨b, off, rfl, hb, hc⟩
    · omega
    have hn0 : ¬ ((n : Int) = 0) := by omega
    have HC := hide hc
    have HX := hide hx
    have H1 := hide h1
    clear hc hx h1
    go_enter Tryz.func246, Tryz.ntmps246
    go_wp2_with (at_make; refine wpList_make_full _ rfl _ _ 80 rfl w.heap.size 116 i0 _ 2 Tryz.underlying80 hi hz0 hz1 _ _ _ _ n rfl rfl rfl rfl (by rw [hz2]; omega) (by unfold maxLen; omega) (Nat.le_refl _) ?_; intro w1 hown1 hgrow1; have hb1 : Below w.heap.size w w1 := (Below.refl _ _).grown hgrow1 (Nat.le_refl _) (by simp); obtain ⟨w2, hcp, HO, HB⟩ := filled (P := Tryz.prog) (ty := 3) Tryz.underlying80 hsz hown1 hb1 (unhide HX) b off cap (fun j v hj => (hb1.cell hb).trans (unhide HC j v hj)) (unhide H1); replace HO := hide HO; replace HB := hide HB; clear hown1 hgrow1 hb1)
    go_ret
    exact ⟨⟨_, rfl, unhide HO⟩, unhide HB⟩
set_option maxRecDepth 100000 in
set_option maxHeartbeats 1000000 in
theorem copyNode_any (a : Option Addr) (n cap : Nat) (xs : List Value) (w : World) (hx : xs.length = n * 10) (hn : n ≤ 100000000) (h1 : ∀ v ∈ xs, v.oneCell' = true) (h : n = 0 ∨ ∃ b off, a = some ⟨b, off, none⟩ ∧ b < w.heap.size ∧ ∀ j v, xs[j]? = some v → w.cell? ⟨b, off + j, none⟩ = some v) :
    Calls Tryz.prog 245 #[.slice a n cap] w fun e w' => (∃ v, e = .returned v ∧ w'.ownsRow w.heap.size 82 10 v n xs) ∧ Below w.heap.size w w' := by
  obtain ⟨i0, hi, hz0, hz1, hz2⟩ := info_parts infoN
  have hsz : (Tryz.prog.info? 82).map (·.size) = some 10 := by rw [hi]; simp [hz1]
  rcases Nat.eq_zero_or_pos n with rfl | hp
  · obtain rfl : xs = [] := List.eq_nil_of_length_eq_zero (by omega)
    go_enter Tryz.func245, Tryz.ntmps245
    go_wp2
    go_ret
    exact ⟨⟨_, rfl, World.ownsRow_nil _ _ _ _⟩, Below.refl _ _⟩
  · rcases h with h0 | ⟨b, off, rfl, hb, hc⟩
    · omega
    have hn0 : ¬ ((n : Int) = 0) := by omega
    have HC := hide hc
    have HX := hide hx
    have H1 := hide h1
    clear hc hx h1
    go_enter Tryz.func245, Tryz.ntmps245
    go_wp2_with (at_make; refine wpList_make_full _ rfl _ _ 22 rfl w.heap.size 82 i0 _ 10 Tryz.underlying22 hi hz0 hz1 _ _ _ _ n rfl rfl rfl rfl (by rw [hz2]; omega) (by unfold maxLen; omega) (Nat.le_refl _) ?_; intro w1 hown1 hgrow1; have hb1 : Below w.heap.size w w1 := (Below.refl _ _).grown hgrow1 (Nat.le_refl _) (by simp); obtain ⟨w2, hcp, HO, HB⟩ := filled (P := Tryz.prog) (ty := 3) Tryz.underlying22 hsz hown1 hb1 (unhide HX) b off cap (fun j v hj => (hb1.cell hb).trans (unhide HC j v hj)) (unhide H1); replace HO := hide HO; replace HB := hide HB; clear hown1 hgrow1 hb1)
    go_ret
    exact ⟨⟨_, rfl, unhide HO⟩, unhide HB⟩
end Go.Proofs.YtpcklgbcabpilaaGreatDoor.Ca
