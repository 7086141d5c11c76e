/- Contracts: the library's strings.Count and strings.Split at a comma (the numbers of the laying are this seat's: lay1.sh). -/
import Derived.Test.YtcoehcoohppbjacDoorCn
import Derived.Shelf.Strings.Split
set_option linter.unusedVariables false
namespace Go.Proofs.YtcoehcoohppbjacDoor
open Go.RowKit Go.Shelf
def splitLays_ren : Go.Shelf.Ren := ⟨fun | 146 => 87 | 221 => 120 | 268 => 140 | 138 => 86 | 143 => 95 | 195 => 118 | 197 => 150 | 218 => 119 | 219 => 125 | 260 => 153 | 217 => 142 | 225 => 143 | 224 => 144 | 267 => 145 | 266 => 151 | 314 => 152 | n => n, fun | 9 => 9 | 31 => 43 | 3 => 3 | 4 => 4 | 0 => 0 | 105 => 161 | 21 => 21 | 5 => 5 | 46 => 131 | 119 => 167 | 139 => 170 | 138 => 169 | 146 => 163 | 51 => 139 | n => n, fun | 1 => 3 | 3 => 7 | 4 => 8 | n => n⟩
theorem splitLays : Go.Proofs.Lays.n146 Tryd.prog splitLays_ren := {
  mixed := by kernel_rfl
  f138 := Tryd.func86.trans (congrArg some (by kernel_rfl))
  f143 := Tryd.func95.trans (congrArg some (by kernel_rfl))
  f146 := Tryd.func87.trans (congrArg some (by kernel_rfl))
  f195 := Tryd.func118.trans (congrArg some (by kernel_rfl))
  f197 := Tryd.func150.trans (congrArg some (by kernel_rfl))
  f217 := Tryd.func142.trans (congrArg some (by kernel_rfl))
  f218 := Tryd.func119.trans (congrArg some (by kernel_rfl))
  f219 := Tryd.func125.trans (congrArg some (by kernel_rfl))
  f221 := Tryd.func120.trans (congrArg some (by kernel_rfl))
  f224 := Tryd.func144.trans (congrArg some (by kernel_rfl))
  f225 := Tryd.func143.trans (congrArg some (by kernel_rfl))
  f260 := Tryd.func153.trans (congrArg some (by kernel_rfl))
  f266 := Tryd.func151.trans (congrArg some (by kernel_rfl))
  f267 := Tryd.func145.trans (congrArg some (by kernel_rfl))
  f268 := Tryd.func140.trans (congrArg some (by kernel_rfl))
  f314 := Tryd.func152.trans (congrArg some (by kernel_rfl))
  t0 := Tryd.underlying0
  a0 := Tryd.isAgg0
  z0 := Tryd.sizeOf0
  v0 := Tryd.zeroValue0
  t3 := Tryd.underlying3
  a3 := Tryd.isAgg3
  z3 := Tryd.sizeOf3
  v3 := Tryd.zeroValue3
  t4 := Tryd.underlying4
  a4 := Tryd.isAgg4
  z4 := Tryd.sizeOf4
  v4 := Tryd.zeroValue4
  t5 := Tryd.underlying5
  a5 := Tryd.isAgg5
  z5 := Tryd.sizeOf5
  v5 := Tryd.zeroValue5
  t9 := Tryd.underlying9
  a9 := Tryd.isAgg9
  z9 := Tryd.sizeOf9
  v9 := Tryd.zeroValue9
  t21 := Tryd.underlying21
  a21 := Tryd.isAgg21
  z21 := Tryd.sizeOf21
  v21 := Tryd.zeroValue21
  t31 := Tryd.underlying43
  a31 := Tryd.isAgg43
  z31 := Tryd.sizeOf43
  v31 := Tryd.zeroValue43
  t46 := Tryd.underlying131
  a46 := Tryd.isAgg131
  z46 := Tryd.sizeOf131
  v46 := Tryd.zeroValue131
  t51 := Tryd.underlying139
  a51 := Tryd.isAgg139
  z51 := Tryd.sizeOf139
  v51 := Tryd.zeroValue139
  t105 := Tryd.underlying161
  a105 := Tryd.isAgg161
  z105 := Tryd.sizeOf161
  v105 := Tryd.zeroValue161
  t119 := Tryd.underlying167
  a119 := Tryd.isAgg167
  z119 := Tryd.sizeOf167
  t138 := Tryd.underlying169
  a138 := Tryd.isAgg169
  z138 := Tryd.sizeOf169
  v138 := Tryd.zeroValue169
  t139 := Tryd.underlying170
  a139 := Tryd.isAgg170
  z139 := Tryd.sizeOf170
  v139 := Tryd.zeroValue170
  t146 := Tryd.underlying163
  a146 := Tryd.isAgg163
  z146 := Tryd.sizeOf163
  v146 := Tryd.zeroValue163
  g1 := by kernel_rfl
  g3 := by kernel_rfl
  g4 := by kernel_rfl }

def commaB : ByteArray := ⟨#[44]⟩
/-- internal/bytealg.MaxLen holds some integer -/
def MaxP (w : World) : Prop := ∃ m, w.cell? ⟨3, 0, none⟩ = some (.int .i64 m)
theorem MaxP.stays {w w' : World} (h : MaxP w) (hb : Below w.heap.size w w') : MaxP w' := by
  obtain ⟨m, h1⟩ := h
  exact ⟨m, cell_keep hb h1⟩
theorem count_any (s : ByteArray) (hs : s.size ≤ 1048576) (w : World) (hm : MaxP w) :
    Calls Tryd.prog 86 #[.string s, .string ⟨#[44]⟩] w fun e w' => e = .returned (.int .i64 ((Lib.countB s commaB : Nat) : Int)) ∧ w = w' := by
  obtain ⟨m, h1⟩ := hm
  exact (Any.strings_Count_any (ρ := splitLays_ren) { splitLays with } s commaB m w (by omega) h1 (by decide)).mono fun e w' ⟨a, b⟩ => ⟨a, b.symm⟩
theorem split_any (s : ByteArray) (hs : s.size ≤ 1048576) (w : World) (hm : MaxP w) :
    Calls Tryd.prog 87 #[.string s, .string ⟨#[44]⟩] w fun e w' => e = .returned (.slice (some ⟨w.heap.size, 0, none⟩) (Lib.countB s commaB + 1) (Lib.countB s commaB + 1)) ∧ w.alloc (.cells ((Lib.splitB commaB 0 (Lib.countB s commaB) s).map Value.string).toArray 9) = w' := by
  obtain ⟨m, h1⟩ := hm
  exact (Any.strings_Split (ρ := splitLays_ren) splitLays (by kernel_rfl) s commaB m w (by omega) h1 (by decide)).mono fun e w' ⟨a, b⟩ => ⟨a, b.symm⟩
/-- the parts of a text -/
def parts (s : ByteArray) : List ByteArray := Lib.splitB commaB 0 (Lib.countB s commaB) s
theorem parts_len (s : ByteArray) : (parts s).length = Lib.countB s commaB + 1 := Lib.splitB_all commaB (by decide) 0 _ s rfl
theorem split_size (s : ByteArray) (k : Nat) : ∀ t ∈ Lib.splitB commaB 0 k s, t.size ≤ s.size := by
  induction k generalizing s with
  | zero => intro t ht; rw [Lib.splitB_zero] at ht; simp at ht; rw [ht]; exact Nat.le_refl _
  | succ k ih =>
    intro t ht
    unfold Lib.splitB at ht
    split at ht
    · simp at ht; rw [ht]; exact Nat.le_refl _
    · rcases List.mem_cons.1 ht with rfl | ht
      · rw [ByteArray.size_extract]; omega
      · have := ih _ t ht
        rw [ByteArray.size_extract] at this; omega
theorem parts_size (s : ByteArray) : ∀ t ∈ parts s, t.size ≤ s.size := split_size s _
end Go.Proofs.YtcoehcoohppbjacDoor
