/- What kindSign, Text and Octal answer. -/
import Derived.Test.YtijknodbaddelabDoorMoRune
import Derived.RangeFuncOwn
import Derived.Deep.LoopGhost
namespace Go.Proofs.YtijknodbaddelabDoor.Mo
open Go.RowKit Go.Shelf

def kindP (k : UInt8) : UInt8 := if k = 1 then 45 else if k = 2 then 100 else if k = 3 then 108 else 63
def signP (i : Nat) : UInt8 := if i % 3 = 0 then 114 else if i % 3 = 1 then 119 else 120
/-- the i-th of the nine signs -/
def sgP (mode : Int) (i : Nat) : UInt8 := if mode / 2 ^ (8 - i) % 2 = 0 then 45 else signP i
def textP (k : UInt8) (mode : Int) : Bs := kindP k :: (List.range 9).map (sgP mode)
def toP (k : UInt8) (mode : Int) (i : Nat) : Bs := kindP k :: (List.range i).map (sgP mode)
theorem toP_snoc (k : UInt8) (mode : Int) (i : Nat) : toP k mode (i + 1) = toP k mode i ++ [sgP mode i] := by
  unfold toP; rw [List.range_succ]; simp
theorem toP_len (k : UInt8) (mode : Int) (i : Nat) : (toP k mode i).length = i + 1 := by unfold toP; simp
theorem cells_snoc (l : Bs) (c : UInt8) : Lib.byteCells (l ++ [c]) = Lib.byteCells l ++ [.int .u8 (c.toNat : Int)] := by simp [Lib.byteCells]
theorem cells_len (l : Bs) : (Lib.byteCells l).length = l.length := by simp [Lib.byteCells]
theorem isB_of {B b : Nat} {l : Bs} {bs : List Value} {w : World} (h : Lib.IsBuilder 60 5 B b bs w) (e : bs = Lib.byteCells l) : IsB B b l w := by subst e; exact h
theorem signP_lt (i : Nat) : (signP i).toNat < 128 := by unfold signP; (repeat' split) <;> decide
theorem rwx_at : ∀ i : Nat, i < 9 → (({ data := #[114, 119, 120, 114, 119, 120, 114, 119, 120] } : ByteArray)[i]?) = some (signP i) := by decide
theorem bAt_keep {T e : TypeId} {B b : Nat} {p : Value} {bs : List Value} {w w' : World} {it : Nat} (h : Lib.BuilderAt T e B b p bs w) (hg : w.grownBy w' (some it)) (hit : ∀ c ty z, w.heap[it]? ≠ some (Obj.cells c ty z)) : Lib.BuilderAt T e B b p bs w' := by
  have hl := h.lt
  obtain ⟨h1, v, h2, h3, h4⟩ := h
  refine ⟨h1, v, (hg.block b hl fun e => hit _ _ _ (Option.some.inj e ▸ h2)).trans h2, h3.kept hg ?_, h4⟩
  cases hv : v.ownBlock with
  | none => exact .inl rfl
  | some g =>
    obtain ⟨_, cur, hc⟩ := own_block h3 g hv
    refine .inr fun e => ?_
    simp at e
    subst e
    exact hit _ _ _ hc
theorem IsB.keep {B b : Nat} {l : Bs} {w w' : World} {it : Nat} (h : IsB B b l w) (hg : w.grownBy w' (some it)) (hit : ∀ c ty z, w.heap[it]? ≠ some (Obj.cells c ty z)) : IsB B b l w' := by
  rcases h with h | h
  · exact .inl (bAt_keep h hg hit)
  · exact .inr (bAt_keep h hg hit)
theorem bAt_below {T e : TypeId} {B b : Nat} {p : Value} {bs : List Value} {w w' : World} (h : Lib.BuilderAt T e B b p bs w) (hb : Below w.heap.size w w') : Lib.BuilderAt T e B b p bs w' := by
  have hl := h.lt
  obtain ⟨h1, v, h2, h3, h4⟩ := h
  exact ⟨h1, v, (hb.block b hl).trans h2, h3.kept (row := none) ⟨hb.os, hb.tape, hb.output, hb.size, fun k hk _ => hb.block k hk⟩ (by cases v.ownBlock <;> simp), h4⟩
theorem IsB.below {B b : Nat} {l : List UInt8} {w w' : World} (h : IsB B b l w) (hb : Below w.heap.size w w') : IsB B b l w' := by
  rcases h with h | h
  · exact .inl (bAt_below h hb)
  · exact .inr (bAt_below h hb)
theorem next_at (W : World) (b : Nat) (s : ByteArray) (pos : Nat) (ty : TypeId) (hb : W.heap[b]? = some (.stringIter s pos)) (h : pos < s.size) :
    (Instr.next (.pointer (some ⟨b, 0, none⟩)) true ty).run Tryd.prog W = .ok (.tuple #[.bool true, .int .i64 pos, .int .i32 (Utf8.decode s pos).1]) (W.putObj b (.stringIter s (pos + (Utf8.decode s pos).2))) := by
  simp only [Instr.next, getObj, setObj, Sem.run_bind, Sem.run, hb, Result.andThen, h, if_true]
  simp [goInt, World.putObj]
theorem next_none (W : World) (b : Nat) (s : ByteArray) (pos : Nat) (ty : TypeId) (hb : W.heap[b]? = some (.stringIter s pos)) (h : ¬ pos < s.size) :
    (Instr.next (.pointer (some ⟨b, 0, none⟩)) true ty).run Tryd.prog W = .ok (.tuple #[.bool false]) W := by
  simp only [Instr.next, getObj, setObj, Sem.run_bind, Sem.run, hb, Result.andThen, h, if_false]
  rfl

set_option maxHeartbeats 400000 in
set_option maxRecDepth 100000 in
theorem kindSign_any (k : UInt8) (w : World) :
    Calls Tryd.prog 23 #[.int .u8 k.toNat] w fun e w' => e = .returned (.int .u8 (kindP k).toNat) ∧ w' = w := by
  go_enter Tryd.func23, Tryd.ntmps23
  go_wp2
  · rename_i h
    go_ret
    refine ⟨?_, rfl⟩
    rw [kindP, if_pos (ceq (d := 1) h)]; rfl
  · rename_i h1 h
    go_ret
    refine ⟨?_, rfl⟩
    rw [kindP, if_neg (cne (d := 1) h1), if_pos (ceq (d := 2) h)]; rfl
  · rename_i h1 h2 h
    go_ret
    refine ⟨?_, rfl⟩
    rw [kindP, if_neg (cne (d := 1) h1), if_neg (cne (d := 2) h2), if_pos (ceq (d := 3) h)]; rfl
  · rename_i h1 h2 h
    go_ret
    refine ⟨?_, rfl⟩
    rw [kindP, if_neg (cne (d := 1) h1), if_neg (cne (d := 2) h2), if_neg (cne (d := 3) h)]; rfl
abbrev rwx : ByteArray := { data := #[114, 119, 120, 114, 119, 120, 114, 119, 120] }
theorem rwx_dec (i : Nat) (h : i < 9) : Utf8.decode rwx i = ((signP i).toNat, 1) := by
  have := decode_ascii rwx i h
  have hs : rwx[i]'h = signP i := by
    have e := rwx_at i h
    rw [getElem?_pos rwx i h] at e
    exact Option.some.inj e
  rw [hs] at this
  rw [this (signP_lt i)]
set_option maxHeartbeats 1000000 in
set_option maxRecDepth 100000 in
theorem text_any (k : UInt8) (mode : Int) (w : World) :
    Calls Tryd.prog 13 #[.int .u8 k.toNat, .int .i64 mode] w fun e w' => e = .returned (.string ⟨(textP k mode).toArray⟩) ∧ Below w.heap.size w w' := by
  have hnew : Hid (IsB w.heap.size w.heap.size [] (w.alloc (.cells #[.pointer none, .slice none 0 0] 60))) := .inl ⟨Nat.le_refl _, .slice none 0 0, heap_alloc_new w _, World.ownsRow_nil _ _ _ _, by simp [Value.ownBlock]⟩
  have HB0 : Hid (Below w.heap.size w (w.alloc (.cells #[.pointer none, .slice none 0 0] 60))) := (Below.refl _ _).alloc (Nat.le_refl _) _
  have hz0 : w.heap.size < (w.alloc (.cells #[.pointer none, .slice none 0 0] 60)).heap.size := by simp
  go_enter Tryd.func13, Tryd.ntmps13
  go_wp2_with fail
  generalize w.alloc (.cells #[.pointer none, .slice none 0 0] 60) = W0 at *
  refine (kindSign_any k _).mono ?_
  rintro e w1 ⟨rfl, rfl⟩
  go_wp2_with fail
  refine (Ln.writeByte_any w.heap.size w.heap.size (Lib.byteCells []) (kindP k).toNat _ (unhide hnew) (by simp [Lib.byteCells]) (unhide HB0).size).mono ?_
  rintro e w2 ⟨rfl, hI2, hb2⟩
  have HI2 : Hid (IsB w.heap.size w.heap.size (toP k mode 0) w2) := hI2
  have HB2 : Hid (Below w.heap.size w w2) := (unhide HB0).trans hb2
  clear hI2 hb2 hnew HB0 hz0
  go_wp2_with fail
  have hb0 : Hid ((w2.iter rwx 0).heap[w2.heap.size]? = some (.stringIter rwx 0)) := World.iter_heap w2 rwx 0
  have hB0 : Hid (Below w.heap.size w (w2.iter rwx 0)) := (unhide HB2).alloc (unhide HB2).size _
  have hI0 : Hid (IsB w.heap.size w.heap.size (toP k mode 0) (w2.iter rwx 0)) := (unhide HI2).below ((Below.refl _ _).alloc (Nat.le_refl _) _)
  have hne : w.heap.size < w2.heap.size := by
    rcases unhide HI2 with h | h
    · exact h.lt
    · exact h.lt
  clear HI2 HB2
  go_loopg [6, 7] 9 (fun g _ _ wx => ∃ i : Nat, i ≤ 9 ∧ 9 - i ≤ g ∧ Hid (wx.heap[w2.heap.size]? = some (.stringIter rwx i)) ∧ Hid (Below w.heap.size w wx) ∧ Hid (IsB w.heap.size w.heap.size (toP k mode i) wx))
  case atStart => exact ⟨0, by omega, by omega, hb0, hB0, hI0⟩
  case round =>
    clear hb0 hB0 hI0
    obtain ⟨i, hi, hg, hit, hB, hI⟩ := hrel
    by_cases hlt : i < 9
    · have hnx := fun ty => next_at wr w2.heap.size rwx i ty (unhide hit) hlt
      have hbl : w2.heap.size < wr.heap.size := (Array.getElem?_eq_some_iff.1 (unhide hit)).1
      rw [rwx_dec i hlt] at hnx
      simp only at hnx
      obtain ⟨W, hW⟩ : ∃ W, W = wr.putObj w2.heap.size (.stringIter rwx (i + 1)) := ⟨_, rfl⟩
      rw [← hW] at hnx
      have hitW : Hid (W.heap[w2.heap.size]? = some (.stringIter rwx (i + 1))) := by rw [hW]; exact World.putObj_heap_same hbl
      have hgW : wr.grownBy W (some w2.heap.size) := by rw [hW]; exact grownBy_putObj' _ _ _
      have hBW : Hid (Below w.heap.size w W) := (unhide hB).grown hgW (unhide hB).size (by intro j hj; cases hj; omega)
      have hIW : Hid (IsB w.heap.size w.heap.size (toP k mode i) W) := (unhide hI).keep hgW (by intro c ty z h; rw [unhide hit] at h; cases h)
      clear hW hgW hB hI hit
      obtain ⟨sg, HSG⟩ : ∃ s, Hid (s = signP i) := ⟨_, rfl⟩
      rw [← unhide HSG] at hnx
      have hsg : sg.toNat < 128 := by rw [unhide HSG]; exact signP_lt i
      have hsub : (8 : Int) - (i : Int) = ((8 - i : Nat) : Int) := by omega
      have FIN : Hid (∀ (c : UInt8) (w4 : World), c = sgP mode i → Lib.IsBuilder 60 5 w.heap.size w.heap.size (Lib.byteCells (toP k mode i) ++ [.int .u8 (c.toNat : Int)]) w4 → IsB w.heap.size w.heap.size (toP k mode (i + 1)) w4) := by
        intro c w4 hc h
        subst hc
        exact isB_of h (by rw [toP_snoc, cells_snoc])
      have WR : Hid (∀ c : Nat, c < 128 → Calls Tryd.prog 24 #[.pointer (some ⟨w.heap.size, 0, none⟩), .int .i32 c] W fun e w' => e = .returned (.tuple #[.int .i64 1, .nilIface]) ∧ Lib.IsBuilder 60 5 w.heap.size w.heap.size (Lib.byteCells (toP k mode i) ++ [.int .u8 c]) w' ∧ Below w.heap.size W w' ∧ Keeps w.heap.size W w') := fun c hc =>
        writeRune_keep w.heap.size w.heap.size _ c hc W (unhide hIW) (by rw [cells_len, toP_len]; omega) (unhide hBW).size
      by_cases hz : mode / 2 ^ (8 - i) % 2 = 0
      · have ht : (bits .and .i64 (mode / 2 ^ (8 - i)) 1 == 0) = true := by rw [and1]; simpa using hz
        have hc : Hid ((45 : UInt8) = sgP mode i) := by unfold sgP; rw [if_pos hz]; rfl
        clear hz
        go_wp2_with fail
        refine (unhide WR 45 (by decide)).mono ?_
        rintro e w4 ⟨rfl, hI4, hb4, hk4⟩
        have hI5 : Hid (IsB w.heap.size w.heap.size (toP k mode (i + 1)) w4) := unhide FIN 45 w4 (unhide hc) hI4
        have hB5 : Hid (Below w.heap.size w w4) := (unhide hBW).trans hb4
        have hit5 : Hid (w4.heap[w2.heap.size]? = some (.stringIter rwx (i + 1))) := (hk4 _ (Array.getElem?_eq_some_iff.1 (unhide hitW)).1 (by omega) (by intro cs fz h; rw [unhide hitW] at h; cases h)).trans (unhide hitW)
        clear hI4 hb4 hk4 hIW hBW hitW WR FIN
        go_wp2_with fail
        go_roundg (9 - (i + 1))
        case measure => omega
        case rel => exact ⟨i + 1, by omega, by omega, hit5, hB5, hI5⟩
      · have ht : (bits .and .i64 (mode / 2 ^ (8 - i)) 1 == 0) = false := by rw [and1]; simpa using hz
        have hc : Hid (sg = sgP mode i) := by unfold sgP; rw [if_neg hz]; exact unhide HSG
        clear hz
        go_wp2_with fail
        refine (unhide WR sg.toNat hsg).mono ?_
        rintro e w4 ⟨rfl, hI4, hb4, hk4⟩
        have hI5 : Hid (IsB w.heap.size w.heap.size (toP k mode (i + 1)) w4) := unhide FIN sg w4 (unhide hc) hI4
        have hB5 : Hid (Below w.heap.size w w4) := (unhide hBW).trans hb4
        have hit5 : Hid (w4.heap[w2.heap.size]? = some (.stringIter rwx (i + 1))) := (hk4 _ (Array.getElem?_eq_some_iff.1 (unhide hitW)).1 (by omega) (by intro cs fz h; rw [unhide hitW] at h; cases h)).trans (unhide hitW)
        clear hI4 hb4 hk4 hIW hBW hitW WR FIN
        go_wp2_with fail
        go_roundg (9 - (i + 1))
        case measure => omega
        case rel => exact ⟨i + 1, by omega, by omega, hit5, hB5, hI5⟩
    · have hnx := fun ty => next_none wr w2.heap.size rwx i ty (unhide hit) hlt
      obtain rfl : i = 9 := by omega
      have HS := hide (Ln.string_any w.heap.size w.heap.size (toP k mode 9) wr (unhide hI) (unhide hB).size)
      clear hI hit
      go_wp2_with fail
      refine (unhide HS).mono ?_
      rintro e w5 ⟨rfl, hb5⟩
      have hB5 : Hid (Below w.heap.size w w5) := (unhide hB).trans hb5
      clear HS hb5
      go_wp2_with fail
      go_ret
      exact ⟨rfl, unhide hB5⟩
end Go.Proofs.YtijknodbaddelabDoor.Mo
