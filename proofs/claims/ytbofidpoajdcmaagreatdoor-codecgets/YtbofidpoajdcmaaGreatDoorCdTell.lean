/- What is told is gathered: gather's closure, lowestFirst, a teller's methods. -/
import Derived.Test.YtbofidpoajdcmaaGreatDoorCdPlain
import Derived.Maps.AppendAt
import Derived.Laws.EntriesVeiled
import Derived.Lib.SlBytesConst
import Derived.Outline
namespace Go.Proofs.YtbofidpoajdcmaaGreatDoor.Cd
open Go.RowKit Cu Tr

/-- the box g holds what was told so far, a row of one's own above it, at o -/
structure Tl (w : World) (g : Nat) (o : Option Nat) (out : Bs) : Prop where
  ex : ∃ v, w.cell? ⟨g, 0, none⟩ = some v ∧ v.ownBlock = o ∧ Row (g + 1) v out w
  fz : w.frozen? ⟨g, 0, none⟩ = false
  lt : g < w.heap.size
/-- all but the box and its row is as it was -/
structure Tk (w w' : World) (g : Nat) (o o' : Option Nat) : Prop where
  os : w'.os = w.os
  tape : w'.tape = w.tape
  output : w'.output = w.output
  size : w.heap.size ≤ w'.heap.size
  block : ∀ k, k < w.heap.size → k ≠ g → some k ≠ o → w'.heap[k]? = w.heap[k]?
  at' : o' = o ∨ ∃ k, o' = some k ∧ w.heap.size ≤ k
theorem Tk.refl (w : World) (g : Nat) (o : Option Nat) : Tk w w g o o := ⟨rfl, rfl, rfl, Nat.le_refl _, fun _ _ _ _ => rfl, .inl rfl⟩
theorem Tk.trans {w w' w'' : World} {g : Nat} {o o' o'' : Option Nat} (h : Tk w w' g o o') (h' : Tk w' w'' g o' o'') : Tk w w'' g o o'' := by
  refine ⟨h'.os.trans h.os, h'.tape.trans h.tape, h'.output.trans h.output, Nat.le_trans h.size h'.size, ?_, ?_⟩
  · intro k hk hg ho
    refine (h'.block k (Nat.lt_of_lt_of_le hk h.size) hg ?_).trans (h.block k hk hg ho)
    rcases h.at' with e | ⟨j, e, hj⟩
    · rw [e]; exact ho
    · rw [e]; intro e2; injection e2 with e2; omega
  · rcases h'.at' with e | ⟨j, e, hj⟩
    · rw [e]; exact h.at'
    · exact .inr ⟨j, e, Nat.le_trans h.size hj⟩
theorem Tk.of_below {w w' : World} {g : Nat} {o : Option Nat} (h : Below w.heap.size w w') : Tk w w' g o o := ⟨h.os, h.tape, h.output, h.size, fun k hk _ _ => h.block k hk, .inl rfl⟩
theorem Tl.at_lo {w : World} {g : Nat} {o : Option Nat} {out : Bs} (h : Tl w g o out) : ∀ k, o = some k → g + 1 ≤ k ∧ k < w.heap.size := by
  intro k hk
  obtain ⟨v, _, h2, h3⟩ := h.ex
  exact h3.lt k (h2.trans hk)
theorem Tk.below {w w' : World} {g : Nat} {o o' : Option Nat} {out : Bs} (h : Tk w w' g o o') (ht : Tl w g o out) : Below g w w' :=
  ⟨h.os, h.tape, h.output, h.size, fun k hk => h.block k (Nat.lt_trans hk ht.lt) (by omega) (fun e => by have := (ht.at_lo k e.symm).1; omega)⟩
theorem Tl.below {w w' : World} {g : Nat} {o : Option Nat} {out : Bs} (h : Tl w g o out) (hb : Below w.heap.size w w') : Tl w' g o out := by
  obtain ⟨⟨v, h1, h2, h3⟩, h4, h5⟩ := h
  exact ⟨⟨v, (hb.cell h5).trans h1, h2, row_below h3 hb⟩, (World.frozen?_of_block (hb.block _ h5)).trans h4, Nat.lt_of_lt_of_le h5 hb.size⟩
/-- a place that is neither the box nor its row -/
def Off (a : Option Addr) (g : Nat) (o : Option Nat) : Prop := ∀ ad, a = some ad → ad.block ≠ g ∧ some ad.block ≠ o
theorem By.told {w w' : World} {g : Nat} {o o' : Option Nat} {a : Option Addr} {n cap : Nat} {l : Bs} (h : By w a n cap l) (hf : 0 < n → Off a g o) (ht : Tk w w' g o o') : By w' a n cap l := by
  refine ⟨h.len, h.le, h.nil, ?_⟩
  rcases h.cells with h | ⟨b, off, e, hlt, hc⟩
  · exact .inl h
  · by_cases h0 : n = 0
    · exact .inl h0
    have := hf (by omega) _ e
    exact .inr ⟨b, off, e, Nat.lt_of_lt_of_le hlt ht.size, fun i hi => (World.cell?_of_block (ht.block b hlt this.1 this.2)).trans (hc i hi)⟩
theorem By.in {w : World} {a : Option Addr} {n cap : Nat} {l : Bs} (h : By w a n cap l) (h0 : 0 < n) : ∀ ad, a = some ad → ad.block < w.heap.size := by
  intro ad e
  rcases h.cells with h | ⟨b, off, e2, hlt, hc⟩
  · omega
  · rw [e] at e2; injection e2 with e2; subst e2; exact hlt
theorem Off.tk {w w' : World} {g : Nat} {o o' : Option Nat} {a : Option Addr} (h : Off a g o) (ht : Tk w w' g o o') (hl : ∀ ad, a = some ad → ad.block < w.heap.size) : Off a g o' := by
  intro ad e
  refine ⟨(h ad e).1, ?_⟩
  rcases ht.at' with e2 | ⟨k, e2, hk⟩
  · rw [e2]; exact (h ad e).2
  · rw [e2]; intro e3; injection e3 with e3; have := hl ad e; omega
abbrev tv (g : Nat) : Value := .func (.func 94) #[] #[.pointer (some ⟨g, 0, none⟩)]

theorem wpList_append_ontoA {P : Program} {w : World} {ops : Array Oper} {rest : List Oper} {o : Oper} {a : Act} {Q : Exit → Act → World → Prop} (hgd : o.guard = none) (s x : Operand) (t : TypeId)
    (ho : o.op = .call { callee := .builtin .append, args := #[s, x], argTypes := #[t, t] })
    (base : Nat) (e : TypeId) (i : TypeInfo) (z : Value) (size bytes : Nat) (ht : P.underlying t = some (.slice e)) (hi : P.info? e = some i) (hz : i.zero = some z)
    (hsize : i.size = size) (hby : i.bytes = bytes) (hzs : z.cells.size = size) (hsz : 0 < size)
    (v : Value) (n : Nat) (xs : List Value) (hs : a.eval s = v) (hown : w.ownsRow base e size v n xs)
    (ao : Option Addr) (m c : Nat) (news : List Value) (hx : a.eval x = .slice ao m c) (hnone : ao = none → m = 0 ∧ c = 0) (hl : news.length = m * size)
    (hnews : ∀ ad, ao = some ad → ∀ j u, news[j]? = some u → w.cell? (ad.add j) = some u) (h1 : ∀ u ∈ news, u.oneCell' = true)
    (h63 : n + m ≤ maxLen) (hbytes : (n + m) * bytes ≤ 140737488355328) (hbase : base ≤ w.heap.size)
    (h : ∀ v' w', w'.ownsRow base e size v' (n + m) (xs ++ news) → w.grownBy w' v.ownBlock → (v'.ownBlock = v.ownBlock ∨ v'.ownBlock = some w.heap.size) → wpList P ops Q rest (a.put o.dst v') w') : wpList P ops Q (o :: rest) a w := by
  cases ao with
  | none =>
    obtain ⟨rfl, rfl⟩ := hnone rfl
    have : news = [] := List.eq_nil_of_length_eq_zero (by omega)
    subst this
    exact wpList_append_own_none hgd s x t ho base e i size ht hi v n xs hs hown hx (h _ _ (by simpa using hown) (World.grownBy.refl _ _) (.inl rfl))
  | some ad =>
    refine wpList_append_own_at w hgd s x t ho base e i z size bytes ht hi hz hsize hby hzs hsz v n xs hs hown ad m c news hx hl (hnews ad rfl) h1 h63 hbytes hbase ?_
    intro v' w' hown hgrow _ h5
    exact h v' w' hown hgrow h5
theorem By.news {w : World} {a : Option Addr} {n cap : Nat} {l : Bs} (h : By w a n cap l) : ∀ ad, a = some ad → ∀ j u, (Lib.byteCells l)[j]? = some u → w.cell? (ad.add j) = some u := by
  intro ad ha j u hj
  rcases h.cells with h0 | ⟨b, off, e, _, hc⟩
  · have := h.len
    have : l = [] := List.eq_nil_of_length_eq_zero (by omega)
    subst this
    simp [Lib.byteCells] at hj
  · rw [ha] at e
    injection e with e
    subst e
    have hjl : j < l.length := by
      have := (List.getElem?_eq_some_iff.1 hj).1
      simpa [Lib.byteCells] using this
    have := hc j (by have := h.len; omega)
    rw [Addr.add_lit]
    rw [this]
    simp [Lib.byteCells, List.getElem?_eq_getElem hjl, List.getD] at hj ⊢
    exact hj
theorem byteCells_one (l : Bs) : ∀ u ∈ Lib.byteCells l, u.oneCell' = true := by
  intro u hu
  simp [Lib.byteCells] at hu
  obtain ⟨c, _, rfl⟩ := hu
  rfl
theorem row_app {w : World} {B : Nat} {v : Value} {l m : Bs} {n : Nat} (hn : m.length = n) (h : w.ownsRow B 5 1 v (l.length + n) (Lib.byteCells l ++ Lib.byteCells m)) : Row B v (l ++ m) w := by
  subst hn
  simpa [Row, Lib.byteCells] using h

theorem row_off {w : World} {B : Nat} {v : Value} {l : Bs} (h : Row B v l w) {a : Addr} (hne : ∀ k, v.ownBlock = some k → k ≠ a.block) (x : Value) : Row B v l (w.setCell a x) := by
  refine ⟨h.1, ?_⟩
  rcases h.2 with hn | ⟨g, cap, cur, hv, hb, hg, rest⟩
  · exact .inl hn
  · refine .inr ⟨g, cap, cur, hv, hb, ?_, rest⟩
    rw [heap_setCell_other _ _ _ _ (hne g (by rw [hv]; rfl))]
    exact hg
set_option maxHeartbeats 400000 in
set_option maxRecDepth 100000 in
/-- gather's closure: what it is told stands behind what it was told before -/
theorem tell_any (a : Option Addr) (n cap : Nat) (l : Bs) (g : Nat) (o : Option Nat) (out : Bs) (w : World) (hT : Tl w g o out) (hB : By w a n cap l) (hl : out.length + n ≤ 140737488355328) :
    Calls Tryz.prog 94 #[.slice a n cap, .pointer (some ⟨g, 0, none⟩)] w fun e w' => e = .returned (.tuple #[]) ∧ ∃ o', Tl w' g o' (out ++ l) ∧ Tk w w' g o o' := by
  obtain ⟨i0, hi, hz0, hz1, hz2⟩ := info_parts Tryz.infoByte
  obtain ⟨⟨v, hv, ho, hR⟩, hfz, hlt⟩ := hT
  have HR := hide hR
  have HB := hide hB
  obtain ⟨va, vc, rfl⟩ := row_slice hR
  have HO := hide ho
  clear hR hB ho
  go_enter Tryz.func94, Tryz.ntmps94
  go_wp2_with (at_builtin; refine wpList_append_ontoA rfl _ _ 23 rfl (g + 1) 5 i0 _ 1 1 Tryz.underlying23 hi hz0 hz1 hz2 rfl (by decide) _ out.length (Lib.byteCells out) rfl (unhide HR) a n cap (Lib.byteCells l) rfl (unhide HB).nil ?_ (By.news (unhide HB)) (byteCells_one l) ?_ ?_ ?_ ?_)
  case refine_1 => have := (unhide HB).len; simp [Lib.byteCells]; omega
  case refine_2 => unfold maxLen; omega
  case refine_3 => omega
  case refine_4 => omega
  case refine_5 =>
    intro v' w' hO hG hat
    have hR' := row_app (unhide HB).len hO
    obtain ⟨va', vc', rfl⟩ := row_slice hR'
    have hgr : some g ≠ (Value.slice va out.length vc).ownBlock := fun e => by
      have := row_lo (unhide HR) g e.symm
      omega
    have hcg := World.cell?_of_block (a := ⟨g, 0, none⟩) (hG.block g hlt hgr)
    rw [hv] at hcg
    have hfg := World.frozen?_of_block (a := ⟨g, 0, none⟩) (hG.block g hlt hgr)
    rw [hfz] at hfg
    have hlt' : g < w'.heap.size := Nat.lt_of_lt_of_le hlt hG.size
    have HR' := hide hR'
    have HG := hide hG
    have HAT := hide hat
    clear hR' hO hG hat hgr
    go_wp2_with fail
    go_end0
    refine ⟨rfl, (Value.slice va' (out ++ l).length vc').ownBlock, ⟨⟨_, ?_, rfl, ?_⟩, ?_, ?_⟩, ?_⟩
    · rw [List.length_append]
      exact World.cell?_setCell_same _ _ _ hcg
    · exact row_off (unhide HR') (by intro k hk; have := row_lo (unhide HR') k hk; show k ≠ g; omega) _
    · simpa using hfg
    · simpa using hlt'
    · rw [← unhide HO]
      refine ⟨(unhide HG).os, (unhide HG).tape, (unhide HG).output, by simpa using (unhide HG).size, ?_, ?_⟩
      · intro k hk hkg hko
        exact (heap_setCell_other _ _ _ _ hkg).trans ((unhide HG).block k hk hko)
      · rcases unhide HAT with e | e
        · exact .inl e
        · exact .inr ⟨_, e, Nat.le_refl _⟩
set_option maxRecDepth 100000 in
theorem made_u8 (W : World) (n : Nat) (hn : n ≤ 64) :
    (Instr.makeSlice 23 (.int .i64 (n : Int)) (.int .i64 (n : Int))).run Tryz.prog W = .ok (.slice (some ⟨W.heap.size, 0, none⟩) n n) (W.alloc (.cells (Lib.byteCells (List.replicate n 0)).toArray 5)) := by
  obtain ⟨i0, hi, hz0, hz1, hz2⟩ := info_parts Tryz.infoByte
  have h := run_makeSlice (P := Tryz.prog) (w := W) 23 5 i0 (.int .u8 0) Tryz.underlying23 hi hz0 .i64 .i64 (n : Int) (n : Int) (by omega) (by omega) (by rw [hz1]; omega) (by rw [hz2]; omega) (by omega)
  rw [h]
  simp only [Int.toNat_natCast, hz1, Nat.mul_one]
  congr 3
  apply Array.toList_inj.1
  rw [show (Value.int .u8 0).cells = #[.int .u8 0] from rfl, toList_madeCells_one]
  simp [Lib.byteCells]
/-- the bytes so far, noughts behind -/
def leTo (i x k : Nat) : Bs := (le k x).take i ++ List.replicate (k - i) 0
theorem leTo_len (i x k : Nat) (h : i ≤ k) : (leTo i x k).length = k := by simp [leTo, le_len]; omega
theorem leTo_set (i x k : Nat) (h : i < k) : (leTo i x k).set i (UInt8.ofNat (x / 256 ^ i)) = leTo (i + 1) x k := by
  have h1 : i < (le k x).length := by rw [le_len]; exact h
  have h2 : (le k x)[i] = UInt8.ofNat (x / 256 ^ i) := by
    have := le_get k x i h
    rw [List.getElem?_eq_getElem h1] at this
    exact Option.some.inj this
  unfold leTo
  rw [List.take_succ_eq_append_getElem h1, h2, show k - i = (k - (i + 1)) + 1 by omega, List.replicate_succ, List.set_append_right _ _ (by rw [List.length_take]; exact Nat.min_le_left _ _), List.append_assoc]
  congr 1
  simp [le_len, Nat.min_eq_left (Nat.le_of_lt h)]
theorem leTo_all (x k : Nat) : leTo k x k = le k x := by unfold leTo; rw [List.take_of_length_le (by rw [le_len]; exact Nat.le_refl _)]; simp
/-- a block of bytes -/
def Blk (w : World) (g : Nat) (l : Bs) : Prop := w.heap[g]? = some (.cells (Lib.byteCells l).toArray 5 (0, 0))
theorem Blk.lt {w : World} {g : Nat} {l : Bs} (h : Blk w g l) : g < w.heap.size := (Array.getElem?_eq_some_iff.1 h).1
theorem Blk.cell {w : World} {g : Nat} {l : Bs} (h : Blk w g l) (i : Nat) (hi : i < l.length) : w.cell? ⟨g, i, none⟩ = some (.int .u8 ((l.getD i 0).toNat : Int)) := by
  rw [cell_of_row _ _ _ _ _ _ h]
  simp [Lib.byteCells, List.getElem?_eq_getElem hi, List.getD]
theorem Blk.frozen {w : World} {g : Nat} {l : Bs} (h : Blk w g l) (i : Nat) : w.frozen? ⟨g, i, none⟩ = false := by
  unfold Blk at h
  simp [World.frozen?, h]
theorem Blk.set {w : World} {g : Nat} {l : Bs} (h : Blk w g l) (i : Nat) (c : UInt8) : Blk (w.setCell ⟨g, i, none⟩ (.int .u8 (c.toNat : Int))) g (l.set i c) := by
  unfold Blk
  rw [heap_setCell_same _ _ _ _ _ _ h]
  congr 2
  simp [Lib.byteCells, List.map_set]
theorem Blk.by {w : World} {g : Nat} {l : Bs} (h : Blk w g l) : By w (some ⟨g, 0, none⟩) l.length l.length l :=
  ⟨rfl, Nat.le_refl _, (by intro h; cases h), .inr ⟨g, 0, rfl, h.lt, fun i hi => by rw [Nat.zero_add]; exact h.cell i hi⟩⟩

theorem low_val (x i : Nat) : (x : Int) / 2 ^ (8 * i) % 256 = ((UInt8.ofNat (x / 256 ^ i)).toNat : Int) := by
  rw [UInt8.toNat_ofNat', show (256 : Nat) ^ i = 2 ^ (8 * i) by rw [Nat.pow_mul]]
  have : (x : Int) / 2 ^ (8 * i) = ((x / 2 ^ (8 * i) : Nat) : Int) := by push_cast; rfl
  rw [this]
  omega
set_option maxHeartbeats 400000 in
set_option maxRecDepth 100000 in
theorem lowest_any (x k : Nat) (w : World) (hk : k ≤ 8) :
    Calls Tryz.prog 139 #[.int .u64 (x : Int), .int .i64 (k : Int)] w fun e w' => e = .returned (.slice (some ⟨w.heap.size, 0, none⟩) k k) ∧ Blk w' w.heap.size (le k x) ∧ Below w.heap.size w w' := by
  have hmk := made_u8 w k (by omega)
  have hB0 : Hid (Blk (w.alloc (.cells (Lib.byteCells (List.replicate k 0)).toArray 5)) w.heap.size (leTo 0 x k)) := by
    show _ = _
    rw [heap_alloc_new]; simp [leTo]
  have hb0 : Hid (Below w.heap.size w (w.alloc (.cells (Lib.byteCells (List.replicate k 0)).toArray 5))) := (Below.refl _ _).alloc (Nat.le_refl _) _
  generalize (w.alloc (.cells (Lib.byteCells (List.replicate k 0)).toArray 5)) = w1 at *
  go_enter Tryz.func139, Tryz.ntmps139
  go_wp2_with fail
  go_loopw [6, 11] (fun v6 v11 wr => ∃ i : Nat, i ≤ k ∧ v11 = .int .i64 i ∧ Hid (Blk wr w.heap.size (leTo i x k)) ∧ Hid (Below w.heap.size w wr)) (fun _ v11 _ => k - (intOf v11).toNat)
  case atStart => exact ⟨0, Nat.zero_le _, rfl, hB0, hb0⟩
  case round =>
    clear hB0 hb0 hmk
    obtain ⟨i, hi, rfl, hB, hb⟩ := hrel
    by_cases hlt : i < k
    · have hlt' : (i : Int) < (k : Int) := by omega
      have hcell := (unhide hB).cell i (by rw [leTo_len _ _ _ hi]; exact hlt)
      have hfz := (unhide hB).frozen i
      have hE := low_val x i
      have hB2 := hide ((unhide hB).set i (UInt8.ofNat (x / 256 ^ i)))
      rw [leTo_set i x k hlt] at hB2
      have hb2 : Hid (Below w.heap.size w (wr.setCell ⟨w.heap.size, i, none⟩ (.int .u8 ((UInt8.ofNat (x / 256 ^ i)).toNat : Int)))) := (unhide hb).setCell (p := ⟨w.heap.size, i, none⟩) (Nat.le_refl _) _
      rw [← hE] at hB2 hb2
      clear hB hb hE
      go_wp2_with fail
      go_roundw
      case rel => exact ⟨i + 1, by omega, by go_num, hB2, hb2⟩
      case measure => simp [intOf]; omega
    · obtain rfl : i = k := by omega
      rw [leTo_all] at hB
      go_wp2_with fail
      go_ret
      exact ⟨rfl, unhide hB, unhide hb⟩
end Go.Proofs.YtbofidpoajdcmaaGreatDoor.Cd
