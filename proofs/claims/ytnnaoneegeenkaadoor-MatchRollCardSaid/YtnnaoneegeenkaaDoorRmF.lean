/- roll's map of functions, and Table. -/
import Derived.Test.YtnnaoneegeenkaaDoorRmT
import Derived.Test.YtnnaoneegeenkaaDoorRlN
namespace Go.Proofs.YtnnaoneegeenkaaDoor.Rm
open Go.ChangeShapes Go.WideShapes Go.ChangeAt Go.RowKit Own Ro Kc Go.Maps Go.WideMaps

/-- 'm[k] = v' of a map that is just made, at the operation. -/
theorem wpList_insert_own {H : Type} {P : Program} (w : World) {ops : Array Oper} {rest : List Oper} {o : Oper} {a : Act} {Q : Exit → Act → World → Prop}
    (hg : o.guard = none) (m x v : Operand) (t : TypeId) (hop : o.op = Op.insert t m x v)
    (k e : TypeId) (K : Keyed P k) (ht : P.underlying t = some (.map k e)) (R : Value → Option (DataW H × List MemPlace)) (b n : Nat) (D : DataW H)
    (hm : a.eval m = .map (some b)) (hown : w.ownsMap P k R b n D) (hn : n < maxLen) (key val : Value) (kl : Lit) (hx : a.eval x = key) (hv : a.eval v = val) (hkey : keyOf P k key = some kl)
    (d : DataW H) (ps : List MemPlace) (hval : R val = some (d, ps))
    (hK : ∀ w', w'.ownsMap P k R b (n + 1) (D.put kl d) → w.grownBy w' (some b) → wpList P ops Q rest (a.put o.dst undef) w') :
    wpList P ops Q (o :: rest) a w := by
  refine wpList_plain hg fun K' hK' => ?_
  obtain ⟨w', hrun, r1, r2⟩ := hown.update K ht hn hkey hval
  unfold Oper.wp
  simp [execOp, hop, hm, hx, hv, hrun, Result.andThen]
  exact hK' _ _ (hK w' r1 r2)
def rd (v : Value) : Option (DataW Value × List MemPlace) := some (.held v, [])
def crystalN : List UInt8 := [99, 114, 121, 115, 116, 97, 108]
def supplyN : List UInt8 := [115, 117, 112, 112, 108, 121]
def busN : List UInt8 := [98, 117, 115]
def sensorN : List UInt8 := [115, 101, 110, 115, 111, 114]
def radioN : List UInt8 := [114, 97, 100, 105, 111]
def fnV (f : Nat) : Value := .func (.func f) #[] #[]
/-- The map of functions. -/
def DA : DataW Value := (((((DataW.map []).put (.string crystalN) (.held (fnV 65))).put (.string supplyN) (.held (fnV 67))).put (.string busN) (.held (fnV 69))).put (.string sensorN) (.held (fnV 71))).put (.string radioN) (.held (fnV 73))
set_option maxRecDepth 100000 in
set_option maxHeartbeats 8000000 in
theorem arrays_any (w : World) : Calls Tryd.prog 36 #[] w (fun e w' => e = .returned (.map (some w.heap.size)) ∧ w'.ownsMap Tryd.prog 9 rd w.heap.size 5 DA ∧ Below w.heap.size w w') := by
  have hmm := @run_makeMap Tryd.prog
  have HM := Lib.hid (World.ownsMap_made w Tryd.prog 9 rd)
  have HB := Lib.hid (grows' w (.map #[] 0))
  go_enter Tryd.func36, Tryd.ntmps36
  go_wp2_with ((with_reducible (show wpList _ _ _ ((⟨none, .insert _ _ _ _, _, _, _, _⟩ : Oper) :: _) _ _)); refine wpList_insert_own _ rfl _ _ _ 103 rfl 9 101 nameLaw Tryd.underlying103 rd w.heap.size _ _ rfl HM.out (by unfold maxLen; omega) _ _ _ rfl rfl (keyOf_string_mk Tryd.underlying9 (by decide)) _ [] rfl ?_; intro w1 hm1 hg1; replace HM := Lib.hid hm1; replace HB := Lib.hid (HB.out.grown hg1 HB.out.size (fun k hk => by injection hk with hk; omega)); clear hm1 hg1)
  go_ret
  exact ⟨rfl, HM.out, HB.out⟩
theorem zeroFn (w : World) : (zeroValue 101).run Tryd.prog w = .ok .nilFunc w := by kernel_rfl
/-- What is found under a name. -/
def Found (s : List UInt8) (f n : Nat) (vs : List Value) (T : TypeId) : Prop := Maps.has DA (.string s) = true ∧ DA.atKey (.string s) (.held .nilFunc) = .held (fnV f) ∧ (∀ W, T5 W → Calls Tryd.prog f #[] W (TabPost n vs T W)) ∧ ∀ args W, (callFunc f args).run Tryd.prog W = .ok (.enter f args) W
theorem found_c : Found crystalN 65 32 Ct.tabV 121 := ⟨rfl, rfl, fun W h => Ct.fn_any W h.c, enters_of Tryd.func65 (by kernel_rfl) rfl⟩
theorem found_v : Found supplyN 67 24 Vt.tabV 139 := ⟨rfl, rfl, fun W h => Vt.fn_any W h.v, enters_of Tryd.func67 (by kernel_rfl) rfl⟩
theorem found_b : Found busN 69 20 Bt.tabV 141 := ⟨rfl, rfl, fun W h => Bt.fn_any W h.b, enters_of Tryd.func69 (by kernel_rfl) rfl⟩
theorem found_s : Found sensorN 71 16 St.tabV 143 := ⟨rfl, rfl, fun W h => St.fn_any W h.s, enters_of Tryd.func71 (by kernel_rfl) rfl⟩
theorem found_r : Found radioN 73 20 Rt.tabV 141 := ⟨rfl, rfl, fun W h => Rt.fn_any W h.r, enters_of Tryd.func73 (by kernel_rfl) rfl⟩
def Fams : List (List UInt8) := [crystalN, supplyN, busN, sensorN, radioN]
theorem not_found (s : List UInt8) (h : s ∉ Fams) : Maps.has DA (.string s) = false := by
  simp only [Fams, List.mem_cons, List.not_mem_nil, or_false, not_or] at h
  obtain ⟨h1, h2, h3, h4, h5⟩ := h
  have e : ∀ {a b : List UInt8}, a ≠ b → Lit.string a ≠ Lit.string b := fun hab he => hab (by injection he)
  unfold DA
  rw [has_put_other (e h5), has_put_other (e h4), has_put_other (e h3), has_put_other (e h2), has_put_other (e h1)]
  rfl
/-- A list of numbers that is a new array's, and no error. -/
def TabOk (n : Nat) (vs : List Value) (T : TypeId) (w : World) (e : Ending) (w' : World) : Prop :=
  ∃ g, e = .returned (.tuple #[.slice (some ⟨g, 0, none⟩) n n, .int .i64 0]) ∧ w.heap.size ≤ g ∧ w'.heap[g]? = some (.cells vs.toArray T (0, 0)) ∧ Below w.heap.size w w'
set_option maxRecDepth 100000 in
set_option maxHeartbeats 8000000 in
theorem table_ok {s : List UInt8} {f n : Nat} {vs : List Value} {T : TypeId} (hf : Found s f n vs T) (w : World) (h : T5 w) (hs : s.length ≤ 1000) : Calls Tryd.prog 12 #[.string (str s)] w (TabOk n vs T w) := by
  have HT := Lib.hid h
  have HF := Lib.hid hf
  have HKEY := Lib.hid (nameKey s hs)
  have HA := Lib.hid arrays_any
  have heg := hf.2.2.2
  clear h hf hs
  generalize str s = S at HKEY ⊢
  go_enter Tryd.func12, Tryd.ntmps12
  go_wp2_with fail
  refine (HA.out w).mono ?_
  rintro e w1 ⟨rfl, hm, hb⟩
  have HM := Lib.hid hm
  have HB := Lib.hid hb
  clear hm hb HA
  go_wp2_with (at_lookup; refine wpList_lookup_own_ok _ rfl _ _ 103 rfl 9 101 nameLaw Tryd.underlying103 rd (zeroFn _) (.held .nilFunc) [] rfl w.heap.size 5 DA rfl HM.out _ _ rfl HKEY.out ?_; rw [HF.out.1, HF.out.2.1]; intro v ps hv; obtain rfl : v = fnV f := (by unfold rd at hv; injection hv with hv; injection hv with hv _; injection hv); unfold fnV)
  refine (HF.out.2.2.1 w1 (HT.out.below HB.out)).mono ?_
  rintro e w2 ⟨g, rfl, hg, hh, hb2⟩
  have HG := Lib.hid hg
  have HH := Lib.hid hh
  have HB2 := Lib.hid (bt HB.out hb2)
  clear hg hh hb2
  go_wp2_with fail
  go_ret2
  exact ⟨g, rfl, Nat.le_trans HB.out.size HG.out, HH.out, HB2.out⟩
set_option maxRecDepth 100000 in
set_option maxHeartbeats 8000000 in
theorem table_none (s : List UInt8) (w : World) (hn : s ∉ Fams) (hs : s.length ≤ maxLen) : Calls Tryd.prog 12 #[.string (str s)] w (fun e w' => e = .returned (.tuple #[.slice none 0 0, .int .i64 6]) ∧ Below w.heap.size w w') := by
  have HF := Lib.hid (not_found s hn)
  have HKEY := Lib.hid (show keyOf Tryd.prog 9 (.string (str s)) = some (.string s) from keyOf_string_mk Tryd.underlying9 (by rw [str_size]; omega))
  have HA := Lib.hid arrays_any
  clear hn hs
  generalize str s = S at HKEY ⊢
  go_enter Tryd.func12, Tryd.ntmps12
  go_wp2_with fail
  refine (HA.out w).mono ?_
  rintro e w1 ⟨rfl, hm, hb⟩
  have HM := Lib.hid hm
  have HB := Lib.hid hb
  clear hm hb HA
  go_wp2_with (at_lookup; refine wpList_lookup_own_ok _ rfl _ _ 103 rfl 9 101 nameLaw Tryd.underlying103 rd (zeroFn _) (.held .nilFunc) [] rfl w.heap.size 5 DA rfl HM.out _ _ rfl HKEY.out ?_; rw [HF.out]; intro v ps hv; clear hv)
  go_ret2
  exact ⟨rfl, HB.out⟩
set_option maxRecDepth 100000 in
theorem families_any (w : World) : Calls Tryd.prog 11 #[] w (fun e w' => e = .returned (.slice (some ⟨w.heap.size, 0, none⟩) 5 5) ∧ w' = w.alloc (.cells #[.string (str crystalN), .string (str supplyN), .string (str busN), .string (str sensorN), .string (str radioN)] 9)) := by
  go_enter Tryd.func11, Tryd.ntmps11
  go_wp2_with fail
  go_ret
  exact ⟨rfl, rfl⟩
end Go.Proofs.YtnnaoneegeenkaaDoor.Rm
