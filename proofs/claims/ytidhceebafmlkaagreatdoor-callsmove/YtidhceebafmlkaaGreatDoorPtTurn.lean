import Derived.Test.YtidhceebafmlkaaGreatDoorPtStrW
import Derived.Laws.AppendOwnNone
namespace Go.Proofs.YtidhceebafmlkaaGreatDoor.Pt
open Go.RowKit Cu Tr
abbrev tyStr : TypeId := 9
abbrev tyTrip : TypeId := 215
theorem addN (b off j : Nat) : (⟨b, off, none⟩ : Addr).add j = ⟨b, off + j, none⟩ := by unfold Addr.add; split <;> simp_all
structure Tx (w : World) (a : Option Addr) (n cap : Nat) (ss : List ByteArray) : Prop where
  len : ss.length = n
  le : n ≤ cap
  nil : a = none → n = 0 ∧ cap = 0
  cells : n = 0 ∨ ∃ b off, a = some ⟨b, off, none⟩ ∧ (∃ cur, w.heap[b]? = some (.cells cur tyStr (0, 0))) ∧ ∀ i, i < n → w.cell? ⟨b, off + i, none⟩ = some (.string (ss.getD i ByteArray.empty))
theorem Tx.kept {w w' : World} {a : Option Addr} {n cap : Nat} {ss : List ByteArray} (h : Tx w a n cap ss) (hk : ∀ (b : Nat) (cur : Array Value), w.heap[b]? = some (.cells cur tyStr (0, 0)) → w'.heap[b]? = w.heap[b]?) : Tx w' a n cap ss := by
  refine ⟨h.len, h.le, h.nil, ?_⟩
  rcases h.cells with h | ⟨b, off, e, ⟨cur, hb⟩, hc⟩
  · exact .inl h
  · have e1 := hk b cur hb
    exact .inr ⟨b, off, e, ⟨cur, e1.trans hb⟩, fun i hi => (World.cell?_of_block (a := ⟨b, off + i, none⟩) e1).trans (hc i hi)⟩
theorem Tx.below {w w' : World} {a : Option Addr} {n cap : Nat} {ss : List ByteArray} (h : Tx w a n cap ss) (hb : Below w.heap.size w w') : Tx w' a n cap ss :=
  h.kept fun b _ hc => hb.block b (Array.getElem?_eq_some_iff.1 hc).1
theorem tx_of_owns {w : World} {base : Nat} {v : Value} {ss : List ByteArray} (h : w.ownsRow base tyStr 1 v ss.length (ss.map Value.string)) : ∃ a cap, v = .slice a ss.length cap ∧ Tx w a ss.length cap ss := by
  rcases h.2 with ⟨rfl, hn⟩ | ⟨g, cap, cur, rfl, hb, hg, hle, rest⟩
  · exact ⟨none, 0, by rw [hn], rfl, by omega, fun _ => ⟨hn, rfl⟩, .inl hn⟩
  · refine ⟨some ⟨g, 0, none⟩, cap, rfl, rfl, hle, (by intro h; cases h), .inr ⟨g, 0, rfl, ⟨cur, hg⟩, fun i hi => ?_⟩⟩
    have hc := h.cells (g := g) rfl i (.string (ss.getD i ByteArray.empty)) (by rw [List.getElem?_map, List.getElem?_eq_getElem hi]; simp [List.getD, List.getElem?_eq_getElem hi])
    rw [addN] at hc
    exact hc
theorem Tx.src {w : World} {a : Option Addr} {n cap : Nat} {ss : List ByteArray} (h : Tx w a n cap ss) : ∀ ad, a = some ad → ∀ j u, (ss.map Value.string)[j]? = some u → w.cell? (ad.add j) = some u := by
  intro ad ha j u hu
  rw [List.getElem?_map] at hu
  cases e : ss[j]? with
  | none => rw [e] at hu; cases hu
  | some x =>
    rw [e] at hu
    have hj := (List.getElem?_eq_some_iff.1 e).1
    have := h.len
    rcases h.cells with h0 | ⟨b, off, e1, _, hc⟩
    · omega
    · rw [ha] at e1
      obtain rfl := Option.some.inj e1
      rw [addN, hc j (by omega)]
      rw [← Option.some.inj hu]
      simp [List.getD, e]
theorem Tryz.infoStr : (Tryz.prog.info? tyStr).map (fun i => (i.zero, i.size, i.bytes)) = some (some (.string ByteArray.empty), 1, 16) := by kernel_rfl
theorem wpList_append_onto {P : Program} {w : World} {ops : Array Oper} {rest : List Oper} {o : Oper} {a : Act} {Q : Exit → Act → World → Prop} (hgd : o.guard = none) (s x : Operand) (t : TypeId)
    (ho : o.op = .call { callee := .builtin .append, args := #[s, x], argTypes := #[t, t] })
    (base : Nat) (e : TypeId) (i : TypeInfo) (z : Value) (size bytes : Nat) (ht : P.underlying t = some (.slice e)) (hi : P.info? e = some i) (hz : i.zero = some z)
    (hsize : i.size = size) (hby : i.bytes = bytes) (hzs : z.cells.size = size) (hsz : 0 < size)
    (v : Value) (n : Nat) (xs : List Value) (hs : a.eval s = v) (hown : w.ownsRow base e size v n xs)
    (ao : Option Addr) (m c : Nat) (news : List Value) (hx : a.eval x = .slice ao m c) (hnone : ao = none → m = 0 ∧ c = 0) (hl : news.length = m * size)
    (hnews : ∀ ad, ao = some ad → ∀ j u, news[j]? = some u → w.cell? (ad.add j) = some u) (h1 : ∀ u ∈ news, u.oneCell' = true)
    (h63 : n + m ≤ maxLen) (hbytes : (n + m) * bytes ≤ 140737488355328) (hbase : base ≤ w.heap.size)
    (h : ∀ v' w', w'.ownsRow base e size v' (n + m) (xs ++ news) → w.grownBy w' v.ownBlock → wpList P ops Q rest (a.put o.dst v') w') : wpList P ops Q (o :: rest) a w := by
  cases ao with
  | none =>
    obtain ⟨rfl, rfl⟩ := hnone rfl
    have : news = [] := List.eq_nil_of_length_eq_zero (by omega)
    subst this
    exact wpList_append_own_none hgd s x t ho base e i size ht hi v n xs hs hown hx (h _ _ (by simpa using hown) (World.grownBy.refl _ _))
  | some ad =>
    refine wpList_append_own w hgd s x t ho base e i z size bytes ht hi hz hsize hby hzs hsz v n xs hs hown ad m c news hx hl (hnews ad rfl) h1 h63 hbytes hbase ?_
    intro v' w' hown hgrow _
    exact h v' w' hown hgrow
theorem one_str (ss : List ByteArray) : ∀ u ∈ ss.map Value.string, u.oneCell' = true := by
  intro u hu
  obtain ⟨x, _, rfl⟩ := List.mem_map.1 hu
  rfl
set_option maxRecDepth 100000 in
set_option maxHeartbeats 400000 in
theorem isSlash_any (x : Nat) (w : World) : Calls Tryz.prog 267 #[.int .i32 (x : Int)] w fun e w' => e = .returned (.bool (isSl x)) ∧ w' = w := by
  have hv : ((x : Int) == 47) = isSl x := by unfold isSl; rw [Bool.eq_iff_iff]; simp; omega
  have HV := hide hv
  clear hv
  go_enter Tryz.func267, Tryz.ntmps267
  go_wp2_with fail
  go_ret
  exact ⟨ret_b (uh HV), rfl⟩
set_option maxRecDepth 100000 in
set_option maxHeartbeats 400000 in
theorem split_any (s : ByteArray) (w : World) (hs : s.size ≤ 1000000000) : Calls Tryz.prog 239 #[.string s] w fun e w' => ∃ A, e = .returned (.slice (some ⟨A, 0, none⟩) (partsP s).length (partsP s).length) ∧ w.heap.size ≤ A ∧
      w'.ownsRow w.heap.size tyStr 1 (.slice (some ⟨A, 0, none⟩) (partsP s).length (partsP s).length) (partsP s).length ((partsP s).map Value.string) ∧ Below w.heap.size w w' := by
  have HC := hide (Tryz.strings_FieldsFunc_runes 267 #[] (enters_of Tryz.func267 (by kernel_rfl) rfl) isSl s w (by omega) (fun W x _ _ => (isSlash_any x W).mono fun e w' h => ⟨h.1, 0, h.2⟩))
  rw [fields_parts] at HC
  go_enter Tryz.func239, Tryz.ntmps239
  go_wp2_with (go_at_call 266; refine (uh HC).mono ?_; rintro e w' ⟨A, rfl, h1, h2, h3⟩; have H2 := hide h2; have H3 := hide h3; clear h2 h3)
  go_ret
  exact ⟨A, rfl, h1, uh H2, uh H3⟩
set_option maxRecDepth 100000 in
set_option maxHeartbeats 1000000 in
theorem ahead_any (A B0 : Nat) (hs : List ByteArray) (L : Nat) (ra : Option Addr) (rn rc : Nat) (rs : List ByteArray) (w : World) (hL : hs.length = L) (hown : w.ownsRow B0 tyStr 1 (.slice (some ⟨A, 0, none⟩) L L) L (hs.map Value.string)) (hr : Tx w ra rn rc rs) (hB : B0 ≤ w.heap.size) (hb1 : L ≤ 1000000) (hb2 : rn ≤ 1000000) :
    Calls Tryz.prog 238 #[.slice (some ⟨A, 0, none⟩) L L, .slice ra rn rc] w fun e w' => ∃ pa pc, e = .returned (.slice pa (hs ++ rs).length pc) ∧ w'.ownsRow B0 tyStr 1 (.slice pa (hs ++ rs).length pc) (hs ++ rs).length ((hs ++ rs).map Value.string) ∧ w.grownBy w' (some A) := by
  obtain ⟨i1, hi1, hy0, hy1, hy2⟩ := info_parts Tryz.infoStr
  have HO := hide hown
  have HR := hide hr
  clear hown hr
  have HL := hide hL
  clear hL
  have hf : Hid (∀ (v' : Value) (w' : World), w'.ownsRow B0 tyStr 1 v' (L + rn) (hs.map Value.string ++ rs.map Value.string) → w'.ownsRow B0 tyStr 1 v' (hs ++ rs).length ((hs ++ rs).map Value.string)) := fun v' w' h => by
    rw [List.length_append, uh HL, (uh HR).len, List.map_append]; exact h
  go_enter Tryz.func238, Tryz.ntmps238
  go_wp2_with (at_builtin; refine wpList_append_onto rfl _ _ 60 rfl B0 tyStr i1 _ 1 16 Tryz.underlying60 hi1 hy0 hy1 hy2 rfl (by decide) _ L (hs.map Value.string) rfl (uh HO) ra rn rc (rs.map Value.string) rfl (uh HR).nil (by rw [List.length_map, (uh HR).len, Nat.mul_one]) (uh HR).src (one_str rs) (by unfold maxLen; omega) (by omega) hB ?_; intro v' w' h1 h2; have H1 := hide h1; have H2 := hide h2; clear h1 h2)
  have hq := uh hf _ _ (uh H1)
  obtain ⟨pa, pc, rfl, _⟩ := tx_of_owns hq
  have HQ := hide hq
  clear hq
  go_ret
  exact ⟨pa, pc, rfl, uh HQ, uh H2⟩
abbrev trA (a : Option Addr) (n cap : Nat) (e : Pm.Ev) (d : Nat) (v : Value) (dirs : Bool) : Array Value := #[.slice a n cap, .int .i64 e.user, .int .i64 e.group, .int .i64 e.mask, .int .i64 e.dir, .int .i64 d, v, .bool dirs]
structure But (B : Nat) (w w' : World) : Prop where
  os : w'.os = w.os
  tape : w'.tape = w.tape
  output : w'.output = w.output
  size : w.heap.size ≤ w'.heap.size
  block : ∀ k, k < w.heap.size → k ≠ B → w'.heap[k]? = w.heap[k]?
theorem But.trans {B : Nat} {w w1 w2 : World} (h : But B w w1) (h' : But B w1 w2) : But B w w2 :=
  ⟨h'.os.trans h.os, h'.tape.trans h.tape, h'.output.trans h.output, Nat.le_trans h.size h'.size, fun k hk hn => (h'.block k (Nat.lt_of_lt_of_le hk h.size) hn).trans (h.block k hk hn)⟩
theorem But.set {B : Nat} (w : World) (o : Nat) (v : Value) : But B w (w.setCell ⟨B, o, none⟩ v) :=
  ⟨((Below.refl B w).setCell (p := ⟨B, o, none⟩) (Nat.le_refl _) v).os, ((Below.refl B w).setCell (p := ⟨B, o, none⟩) (Nat.le_refl _) v).tape, ((Below.refl B w).setCell (p := ⟨B, o, none⟩) (Nat.le_refl _) v).output, by rw [World.size_setCell]; exact Nat.le_refl _, fun k _ hn => heap_setCell_other w ⟨B, o, none⟩ k v hn⟩
theorem But.below {B N : Nat} {w0 w w' : World} (hb : Below N w0 w) (h : But B w w') (hN : N ≤ B) (hs : N ≤ w0.heap.size) : Below N w0 w' :=
  ⟨h.os.trans hb.os, h.tape.trans hb.tape, h.output.trans hb.output, Nat.le_trans hb.size h.size, fun k hk => (h.block k (Nat.lt_of_lt_of_le hk (Nat.le_trans hs hb.size)) (by omega)).trans (hb.block k hk)⟩
theorem Tx.but {B : Nat} {w w' : World} {c : Array Value} {a : Option Addr} {n cap : Nat} {ss : List ByteArray} (h : Tx w a n cap ss) (hb : But B w w') (hB : w.heap[B]? = some (.cells c tyTrip)) : Tx w' a n cap ss :=
  h.kept fun b cur hc => hb.block b (Array.getElem?_eq_some_iff.1 hc).1 (fun e => by
    rw [e, hB] at hc
    injection hc with hc
    injection hc with _ h2 _
    exact absurd h2 (by decide))
theorem trip_cells {W : World} {B : Nat} {c0 c1 c2 c3 c4 c5 c6 c7 : Value} (h : W.heap[B]? = some (.cells #[c0, c1, c2, c3, c4, c5, c6, c7] tyTrip)) : W.cell? ⟨B, 0, none⟩ = some c0 ∧ W.cell? ⟨B, 1, none⟩ = some c1 ∧ W.cell? ⟨B, 2, none⟩ = some c2 ∧ W.cell? ⟨B, 3, none⟩ = some c3 ∧ W.cell? ⟨B, 4, none⟩ = some c4 ∧ W.cell? ⟨B, 5, none⟩ = some c5 ∧ W.cell? ⟨B, 6, none⟩ = some c6 ∧ W.cell? ⟨B, 7, none⟩ = some c7 := by
  refine ⟨?_, ?_, ?_, ?_, ?_, ?_, ?_, ?_⟩ <;> (rw [cell_of_row _ _ _ _ _ _ h]; rfl)
theorem trip_frozen {W : World} {B : Nat} {c : Array Value} (h : W.heap[B]? = some (.cells c tyTrip)) (j : Nat) : W.frozen? ⟨B, j, none⟩ = false := by simp [World.frozen?, h]
theorem set_at {w : World} {B : Nat} {a : Option Addr} {n cap : Nat} {e : Pm.Ev} {d : Nat} {v : Value} {dirs : Bool} (h : w.heap[B]? = some (.cells (trA a n cap e d v dirs) tyTrip)) (x : Nat) : (w.setCell ⟨B, 5, none⟩ (.int .i64 x)).heap[B]? = some (.cells (trA a n cap e x v dirs) tyTrip) := heap_setCell_same w B 5 _ tyTrip _ h
theorem set_parts {w : World} {B : Nat} {a : Option Addr} {n cap : Nat} {e : Pm.Ev} {d : Nat} {v : Value} {dirs : Bool} (h : w.heap[B]? = some (.cells (trA a n cap e d v dirs) tyTrip)) (x : Value) : (w.setCell ⟨B, 6, none⟩ x).heap[B]? = some (.cells (trA a n cap e d x dirs) tyTrip) := heap_setCell_same w B 6 _ tyTrip _ h
theorem set_dirs {w : World} {B : Nat} {a : Option Addr} {n cap : Nat} {e : Pm.Ev} {d : Nat} {v : Value} {dirs : Bool} (h : w.heap[B]? = some (.cells (trA a n cap e d v dirs) tyTrip)) (x : Bool) : (w.setCell ⟨B, 7, none⟩ (.bool x)).heap[B]? = some (.cells (trA a n cap e d v x) tyTrip) := heap_setCell_same w B 7 _ tyTrip _ h
structure TurnR (B : Nat) (a : Option Addr) (n cap : Nat) (e : Pm.Ev) (d : Nat) (dirs : Bool) (ps : List ByteArray) (w w' : World) : Prop where
  but : But B w w'
  trip : ∃ pa pc, w'.heap[B]? = some (.cells (trA a n cap e d (.slice pa ps.length pc) dirs) tyTrip) ∧ Tx w' pa ps.length pc ps
theorem turn_end {B A : Nat} {a : Option Addr} {n cap : Nat} {e : Pm.Ev} {d : Nat} {dirs : Bool} {ps : List ByteArray} {w w2 w3 w4 : World} {v v' : Value} (h0 : But B w w2) (h2 : w2.heap[B]? = some (.cells (trA a n cap e d v dirs) tyTrip)) (b3 : Below w2.heap.size w2 w3) (g4 : w3.grownBy w4 (some A)) (hA : w2.heap.size ≤ A) (hown : w4.ownsRow w2.heap.size tyStr 1 v' ps.length (ps.map Value.string)) :
    TurnR B a n cap e d dirs ps w (w4.setCell ⟨B, 6, none⟩ v') := by
  have hBl : B < w2.heap.size := (Array.getElem?_eq_some_iff.1 h2).1
  have h3 := (b3.block B hBl).trans h2
  have b24 : But B w2 w4 := ⟨g4.os.trans b3.os, g4.tape.trans b3.tape, g4.output.trans b3.output, Nat.le_trans b3.size g4.size, fun k hk _ => (g4.block k (Nat.lt_of_lt_of_le hk b3.size) (by simp; omega)).trans (b3.block k hk)⟩
  have h4 : w4.heap[B]? = some (.cells (trA a n cap e d v dirs) tyTrip) := (g4.block B (Nat.lt_of_lt_of_le hBl b3.size) (by simp; omega)).trans h3
  obtain ⟨pa, pc, rfl, ht⟩ := tx_of_owns hown
  exact ⟨h0.trans (b24.trans (But.set w4 6 _)), pa, pc, set_parts h4 _, ht.but (But.set w4 6 _) h4⟩
theorem turn_mid {B A : Nat} {a : Option Addr} {n cap : Nat} {e : Pm.Ev} {d : Nat} {dirs : Bool} {w2 w3 w4 : World} {v : Value} (h2 : w2.heap[B]? = some (.cells (trA a n cap e d v dirs) tyTrip)) (b3 : Below w2.heap.size w2 w3) (g4 : w3.grownBy w4 (some A)) (hA : w2.heap.size ≤ A) : w4.cell? ⟨B, 6, none⟩ = some v ∧ w4.frozen? ⟨B, 6, none⟩ = false := by
  have hBl : B < w2.heap.size := (Array.getElem?_eq_some_iff.1 h2).1
  have h4 : w4.heap[B]? = some (.cells (trA a n cap e d v dirs) tyTrip) := (g4.block B (Nat.lt_of_lt_of_le hBl b3.size) (by simp; omega)).trans ((b3.block B hBl).trans h2)
  exact ⟨(trip_cells h4).2.2.2.2.2.2.1, trip_frozen h4 6⟩
set_option maxRecDepth 100000 in
set_option maxHeartbeats 2000000 in
theorem turn_any (B : Nat) (a : Option Addr) (n cap : Nat) (e : Pm.Ev) (d : Nat) (v : Value) (dirs : Bool) (s : ByteArray) (ra : Option Addr) (rn rc : Nat) (rs : List ByteArray) (w : World) (hB : w.heap[B]? = some (.cells (trA a n cap e d v dirs) tyTrip)) (hr : Tx w ra rn rc rs) (hs : s.size ≤ 100000) (hrn : rn ≤ 100000) :
    Calls Tryz.prog 183 #[.pointer (some ⟨B, 0, none⟩), .string s, .slice ra rn rc] w fun r w' => r = .returned (.tuple #[]) ∧ TurnR B a n cap e (if begins s then 1 else d) (dirs || (rs.isEmpty && ends s)) (partsP s ++ rs) w w' := by
  have HP := hide (fun W => hasPrefix_any s W)
  have HS := hide (fun W => hasSuffix_any s W (by omega))
  have HX := hide (fun W => split_any s W (by omega))
  have hpl : (partsP s).length ≤ 1000000 := by have := parts_len s; omega
  have HA : Hid (∀ (W W3 : World) (A : Nat), But B w W → (∃ c, W.heap[B]? = some (.cells c tyTrip)) → Below W.heap.size W W3 → W3.ownsRow W.heap.size tyStr 1 (.slice (some ⟨A, 0, none⟩) (partsP s).length (partsP s).length) (partsP s).length ((partsP s).map Value.string) → Calls Tryz.prog 238 #[.slice (some ⟨A, 0, none⟩) (partsP s).length (partsP s).length, .slice ra rn rc] W3 fun e w' => ∃ pa pc, e = .returned (.slice pa (partsP s ++ rs).length pc) ∧ w'.ownsRow W.heap.size tyStr 1 (.slice pa (partsP s ++ rs).length pc) (partsP s ++ rs).length ((partsP s ++ rs).map Value.string) ∧ W3.grownBy w' (some A)) := fun W W3 A h1 h2 h3 h4 =>
    ahead_any A W.heap.size (partsP s) _ ra rn rc rs W3 rfl h4 ((hr.but h1 hB).below h3) h3.size hpl (by omega)
  have HE : Hid (rs.isEmpty = decide (rn = 0)) := by
    show _ = _
    rw [← hr.len]
    cases rs <;> simp
  have HB := hide hB
  obtain ⟨c0, c1, c2, c3, c4, c5, c6, c7⟩ := trip_cells hB
  have f5 := trip_frozen hB 5
  have f7 := trip_frozen hB 7
  generalize (partsP s).length = L at *
  generalize partsP s ++ rs = ps at *
  clear hr hB
  cases hb : begins s with
  | false =>
    rw [hb] at HP
    clear hb
    rw [if_neg (by decide)]
    cases dirs with
    | true =>
      have H2 : Hid (But B w (w.setCell ⟨B, 7, none⟩ (.bool (true))) ∧ (w.setCell ⟨B, 7, none⟩ (.bool (true))).heap[B]? = some (.cells (trA a n cap e d v (true)) tyTrip)) := ⟨But.set w 7 _, set_dirs (uh HB) _⟩
      have HD : Hid ((true || (rs.isEmpty && ends s)) = (true)) := rfl
      rw [uh HD]
      clear HE HD
      go_enter Tryz.func183, Tryz.ntmps183
      go_upto_region 3 with (first | (go_at_call 236; refine (uh HP _).mono ?_; rintro e1 w1 ⟨rfl, hw⟩; rw [hw]; clear hw w1) | (go_at_call 237; refine (uh HS _).mono ?_; rintro e1 w1 ⟨rfl, hw⟩; rw [hw]; clear hw w1))
      obtain ⟨w2, hw2⟩ : ∃ w2, w2 = (w.setCell ⟨B, 7, none⟩ (.bool (true))) := ⟨_, rfl⟩
      rw [← hw2] at H2 ⊢
      clear hw2 c0 c1 c2 c3 c4 c5 c6 c7 f5 f7 HP HS
      go_wp2_with (first | (go_at_call 239; refine (uh HX _).mono ?_; rintro e1 w3 ⟨A, rfl, hA, ho3, b3⟩; have HO3 := hide ho3; have B3 := hide b3; clear ho3 b3) | (go_at_call 238; refine (uh HA w2 w3 A (uh H2).1 ⟨_, (uh H2).2⟩ (uh B3) (uh HO3)).mono ?_; rintro e2 w4 ⟨pa, pc, rfl, ho4, g4⟩; have HT := hide (turn_end (uh H2).1 (uh H2).2 (uh B3) g4 hA ho4); have k4 := (turn_mid (uh H2).2 (uh B3) g4 hA); have k6 := k4.1; have q6 := k4.2; clear ho4 g4 k4))
      go_end0
      exact ⟨rfl, uh HT⟩
    | false =>
      by_cases hz : rn = 0
      · have H2 : Hid (But B w (w.setCell ⟨B, 7, none⟩ (.bool (ends s))) ∧ (w.setCell ⟨B, 7, none⟩ (.bool (ends s))).heap[B]? = some (.cells (trA a n cap e d v (ends s)) tyTrip)) := ⟨But.set w 7 _, set_dirs (uh HB) _⟩
        have HD : Hid ((false || (rs.isEmpty && ends s)) = (ends s)) := by show (_ : Bool) = _; rw [uh HE, decide_eq_true hz]; rfl
        rw [uh HD]
        clear HE HD
        subst hz
        go_enter Tryz.func183, Tryz.ntmps183
        go_upto_region 3 with (first | (go_at_call 236; refine (uh HP _).mono ?_; rintro e1 w1 ⟨rfl, hw⟩; rw [hw]; clear hw w1) | (go_at_call 237; refine (uh HS _).mono ?_; rintro e1 w1 ⟨rfl, hw⟩; rw [hw]; clear hw w1))
        obtain ⟨w2, hw2⟩ : ∃ w2, w2 = (w.setCell ⟨B, 7, none⟩ (.bool (ends s))) := ⟨_, rfl⟩
        rw [← hw2] at H2 ⊢
        clear hw2 c0 c1 c2 c3 c4 c5 c6 c7 f5 f7 HP HS
        go_wp2_with (first | (go_at_call 239; refine (uh HX _).mono ?_; rintro e1 w3 ⟨A, rfl, hA, ho3, b3⟩; have HO3 := hide ho3; have B3 := hide b3; clear ho3 b3) | (go_at_call 238; refine (uh HA w2 w3 A (uh H2).1 ⟨_, (uh H2).2⟩ (uh B3) (uh HO3)).mono ?_; rintro e2 w4 ⟨pa, pc, rfl, ho4, g4⟩; have HT := hide (turn_end (uh H2).1 (uh H2).2 (uh B3) g4 hA ho4); have k4 := (turn_mid (uh H2).2 (uh B3) g4 hA); have k6 := k4.1; have q6 := k4.2; clear ho4 g4 k4))
        go_end0
        exact ⟨rfl, uh HT⟩
      · have H2 : Hid (But B w (w.setCell ⟨B, 7, none⟩ (.bool (false))) ∧ (w.setCell ⟨B, 7, none⟩ (.bool (false))).heap[B]? = some (.cells (trA a n cap e d v (false)) tyTrip)) := ⟨But.set w 7 _, set_dirs (uh HB) _⟩
        have HD : Hid ((false || (rs.isEmpty && ends s)) = (false)) := by show (_ : Bool) = _; rw [uh HE, decide_eq_false hz]; rfl
        rw [uh HD]
        clear HE HD
        have hz1 : ((rn : Int) == 0) = false := by simpa using hz
        go_enter Tryz.func183, Tryz.ntmps183
        go_upto_region 3 with (first | (go_at_call 236; refine (uh HP _).mono ?_; rintro e1 w1 ⟨rfl, hw⟩; rw [hw]; clear hw w1) | (go_at_call 237; refine (uh HS _).mono ?_; rintro e1 w1 ⟨rfl, hw⟩; rw [hw]; clear hw w1))
        obtain ⟨w2, hw2⟩ : ∃ w2, w2 = (w.setCell ⟨B, 7, none⟩ (.bool (false))) := ⟨_, rfl⟩
        rw [← hw2] at H2 ⊢
        clear hw2 c0 c1 c2 c3 c4 c5 c6 c7 f5 f7 HP HS
        go_wp2_with (first | (go_at_call 239; refine (uh HX _).mono ?_; rintro e1 w3 ⟨A, rfl, hA, ho3, b3⟩; have HO3 := hide ho3; have B3 := hide b3; clear ho3 b3) | (go_at_call 238; refine (uh HA w2 w3 A (uh H2).1 ⟨_, (uh H2).2⟩ (uh B3) (uh HO3)).mono ?_; rintro e2 w4 ⟨pa, pc, rfl, ho4, g4⟩; have HT := hide (turn_end (uh H2).1 (uh H2).2 (uh B3) g4 hA ho4); have k4 := (turn_mid (uh H2).2 (uh B3) g4 hA); have k6 := k4.1; have q6 := k4.2; clear ho4 g4 k4))
        go_end0
        exact ⟨rfl, uh HT⟩
  | true =>
    rw [hb] at HP
    clear hb
    rw [if_pos rfl]
    cases dirs with
    | true =>
      have H2 : Hid (But B w ((w.setCell ⟨B, 5, none⟩ (.int .i64 1)).setCell ⟨B, 7, none⟩ (.bool (true))) ∧ ((w.setCell ⟨B, 5, none⟩ (.int .i64 1)).setCell ⟨B, 7, none⟩ (.bool (true))).heap[B]? = some (.cells (trA a n cap e 1 v (true)) tyTrip)) := ⟨(But.set w 5 _).trans (But.set _ 7 _), set_dirs (set_at (uh HB) 1) _⟩
      have HD : Hid ((true || (rs.isEmpty && ends s)) = (true)) := rfl
      rw [uh HD]
      clear HE HD
      go_enter Tryz.func183, Tryz.ntmps183
      go_upto_region 3 with (first | (go_at_call 236; refine (uh HP _).mono ?_; rintro e1 w1 ⟨rfl, hw⟩; rw [hw]; clear hw w1) | (go_at_call 237; refine (uh HS _).mono ?_; rintro e1 w1 ⟨rfl, hw⟩; rw [hw]; clear hw w1))
      obtain ⟨w2, hw2⟩ : ∃ w2, w2 = ((w.setCell ⟨B, 5, none⟩ (.int .i64 1)).setCell ⟨B, 7, none⟩ (.bool (true))) := ⟨_, rfl⟩
      rw [← hw2] at H2 ⊢
      clear hw2 c0 c1 c2 c3 c4 c5 c6 c7 f5 f7 HP HS
      go_wp2_with (first | (go_at_call 239; refine (uh HX _).mono ?_; rintro e1 w3 ⟨A, rfl, hA, ho3, b3⟩; have HO3 := hide ho3; have B3 := hide b3; clear ho3 b3) | (go_at_call 238; refine (uh HA w2 w3 A (uh H2).1 ⟨_, (uh H2).2⟩ (uh B3) (uh HO3)).mono ?_; rintro e2 w4 ⟨pa, pc, rfl, ho4, g4⟩; have HT := hide (turn_end (uh H2).1 (uh H2).2 (uh B3) g4 hA ho4); have k4 := (turn_mid (uh H2).2 (uh B3) g4 hA); have k6 := k4.1; have q6 := k4.2; clear ho4 g4 k4))
      go_end0
      exact ⟨rfl, uh HT⟩
    | false =>
      by_cases hz : rn = 0
      · have H2 : Hid (But B w ((w.setCell ⟨B, 5, none⟩ (.int .i64 1)).setCell ⟨B, 7, none⟩ (.bool (ends s))) ∧ ((w.setCell ⟨B, 5, none⟩ (.int .i64 1)).setCell ⟨B, 7, none⟩ (.bool (ends s))).heap[B]? = some (.cells (trA a n cap e 1 v (ends s)) tyTrip)) := ⟨(But.set w 5 _).trans (But.set _ 7 _), set_dirs (set_at (uh HB) 1) _⟩
        have HD : Hid ((false || (rs.isEmpty && ends s)) = (ends s)) := by show (_ : Bool) = _; rw [uh HE, decide_eq_true hz]; rfl
        rw [uh HD]
        clear HE HD
        subst hz
        go_enter Tryz.func183, Tryz.ntmps183
        go_upto_region 3 with (first | (go_at_call 236; refine (uh HP _).mono ?_; rintro e1 w1 ⟨rfl, hw⟩; rw [hw]; clear hw w1) | (go_at_call 237; refine (uh HS _).mono ?_; rintro e1 w1 ⟨rfl, hw⟩; rw [hw]; clear hw w1))
        obtain ⟨w2, hw2⟩ : ∃ w2, w2 = ((w.setCell ⟨B, 5, none⟩ (.int .i64 1)).setCell ⟨B, 7, none⟩ (.bool (ends s))) := ⟨_, rfl⟩
        rw [← hw2] at H2 ⊢
        clear hw2 c0 c1 c2 c3 c4 c5 c6 c7 f5 f7 HP HS
        go_wp2_with (first | (go_at_call 239; refine (uh HX _).mono ?_; rintro e1 w3 ⟨A, rfl, hA, ho3, b3⟩; have HO3 := hide ho3; have B3 := hide b3; clear ho3 b3) | (go_at_call 238; refine (uh HA w2 w3 A (uh H2).1 ⟨_, (uh H2).2⟩ (uh B3) (uh HO3)).mono ?_; rintro e2 w4 ⟨pa, pc, rfl, ho4, g4⟩; have HT := hide (turn_end (uh H2).1 (uh H2).2 (uh B3) g4 hA ho4); have k4 := (turn_mid (uh H2).2 (uh B3) g4 hA); have k6 := k4.1; have q6 := k4.2; clear ho4 g4 k4))
        go_end0
        exact ⟨rfl, uh HT⟩
      · have H2 : Hid (But B w ((w.setCell ⟨B, 5, none⟩ (.int .i64 1)).setCell ⟨B, 7, none⟩ (.bool (false))) ∧ ((w.setCell ⟨B, 5, none⟩ (.int .i64 1)).setCell ⟨B, 7, none⟩ (.bool (false))).heap[B]? = some (.cells (trA a n cap e 1 v (false)) tyTrip)) := ⟨(But.set w 5 _).trans (But.set _ 7 _), set_dirs (set_at (uh HB) 1) _⟩
        have HD : Hid ((false || (rs.isEmpty && ends s)) = (false)) := by show (_ : Bool) = _; rw [uh HE, decide_eq_false hz]; rfl
        rw [uh HD]
        clear HE HD
        have hz1 : ((rn : Int) == 0) = false := by simpa using hz
        go_enter Tryz.func183, Tryz.ntmps183
        go_upto_region 3 with (first | (go_at_call 236; refine (uh HP _).mono ?_; rintro e1 w1 ⟨rfl, hw⟩; rw [hw]; clear hw w1) | (go_at_call 237; refine (uh HS _).mono ?_; rintro e1 w1 ⟨rfl, hw⟩; rw [hw]; clear hw w1))
        obtain ⟨w2, hw2⟩ : ∃ w2, w2 = ((w.setCell ⟨B, 5, none⟩ (.int .i64 1)).setCell ⟨B, 7, none⟩ (.bool (false))) := ⟨_, rfl⟩
        rw [← hw2] at H2 ⊢
        clear hw2 c0 c1 c2 c3 c4 c5 c6 c7 f5 f7 HP HS
        go_wp2_with (first | (go_at_call 239; refine (uh HX _).mono ?_; rintro e1 w3 ⟨A, rfl, hA, ho3, b3⟩; have HO3 := hide ho3; have B3 := hide b3; clear ho3 b3) | (go_at_call 238; refine (uh HA w2 w3 A (uh H2).1 ⟨_, (uh H2).2⟩ (uh B3) (uh HO3)).mono ?_; rintro e2 w4 ⟨pa, pc, rfl, ho4, g4⟩; have HT := hide (turn_end (uh H2).1 (uh H2).2 (uh B3) g4 hA ho4); have k4 := (turn_mid (uh H2).2 (uh B3) g4 hA); have k6 := k4.1; have q6 := k4.2; clear ho4 g4 k4))
        go_end0
        exact ⟨rfl, uh HT⟩
end Go.Proofs.YtidhceebafmlkaaGreatDoor.Pt
