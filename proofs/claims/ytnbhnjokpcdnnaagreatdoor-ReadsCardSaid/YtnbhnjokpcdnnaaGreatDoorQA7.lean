import Derived.Test.YtnbhnjokpcdnnaaGreatDoorQA3
import Derived.Test.YtnbhnjokpcdnnaaGreatDoorQA4
import Derived.Test.YtnbhnjokpcdnnaaGreatDoorQA5
set_option linter.unusedSimpArgs false
set_option linter.unusedVariables false

/- How much typing may make, by the number of words: a table, checked. -/
namespace Go.Proofs.YtnbhnjokpcdnnaaGreatDoor

structure Qt where
  ue : Nat
  ve : Nat
  uv : Nat
  vv : Nat

def tabQ : List Qt := [
  ⟨0, 0, 0, 0⟩, ⟨1, 2, 1, 2⟩, ⟨2, 6, 1, 2⟩, ⟨3, 10, 2, 5⟩,
  ⟨4, 14, 2, 5⟩, ⟨5, 18, 3, 9⟩, ⟨6, 22, 3, 13⟩, ⟨7, 26, 4, 17⟩,
  ⟨8, 30, 5, 21⟩, ⟨9, 34, 6, 25⟩, ⟨10, 39, 7, 29⟩, ⟨12, 48, 8, 33⟩,
  ⟨15, 62, 9, 37⟩, ⟨18, 79, 10, 42⟩, ⟨21, 99, 12, 51⟩, ⟨25, 120, 15, 65⟩,
  ⟨30, 144, 18, 82⟩, ⟨36, 169, 21, 102⟩, ⟨42, 197, 25, 123⟩, ⟨49, 226, 30, 147⟩,
  ⟨56, 258, 36, 172⟩, ⟨64, 291, 42, 200⟩, ⟨75, 339, 49, 229⟩, ⟨90, 424, 56, 261⟩,
  ⟨108, 524, 64, 294⟩, ⟨126, 630, 75, 342⟩, ⟨150, 756, 90, 427⟩, ⟨180, 900, 108, 527⟩,
  ⟨216, 1051, 126, 633⟩, ⟨252, 1226, 150, 759⟩, ⟨294, 1422, 180, 903⟩, ⟨343, 1626, 216, 1054⟩,
  ⟨392, 1858, 252, 1229⟩, ⟨450, 2149, 294, 1425⟩, ⟨540, 2649, 343, 1629⟩, ⟨648, 3180, 392, 1861⟩,
  ⟨756, 3816, 450, 2152⟩, ⟨900, 4572, 540, 2652⟩, ⟨1080, 5436, 648, 3183⟩, ⟨1296, 6343, 756, 3819⟩,
  ⟨1512, 7400, 900, 4575⟩, ⟨1764, 8625, 1080, 5439⟩, ⟨2058, 9997, 1296, 6346⟩, ⟨2401, 11426, 1512, 7403⟩,
  ⟨2744, 13274, 1764, 8628⟩, ⟨3240, 15930, 2058, 10000⟩, ⟨3888, 19116, 2401, 11429⟩, ⟨4536, 22932, 2744, 13277⟩,
  ⟨5400, 27468, 3240, 15933⟩, ⟨6480, 32652, 3888, 19119⟩, ⟨7776, 38095, 4536, 22935⟩, ⟨9072, 44444, 5400, 27471⟩,
  ⟨10584, 51843, 6480, 32655⟩, ⟨12348, 60418, 7776, 38098⟩, ⟨14406, 70022, 9072, 44447⟩, ⟨16807, 80026, 10584, 51846⟩,
  ⟨19440, 95616, 12348, 60421⟩, ⟨23328, 114732, 14406, 70025⟩, ⟨27216, 137628, 16807, 80029⟩, ⟨32400, 164844, 19440, 95619⟩,
  ⟨38880, 195948, 23328, 114735⟩, ⟨46656, 228607, 27216, 137631⟩, ⟨54432, 266708, 32400, 164847⟩, ⟨63504, 311151, 38880, 195951⟩,
  ⟨74088, 362944, 46656, 228610⟩, ⟨86436, 422969, 54432, 266711⟩, ⟨100842, 490197, 63504, 311154⟩, ⟨117649, 573732, 74088, 362947⟩,
  ⟨139968, 688428, 86436, 422972⟩, ⟨163296, 825804, 100842, 490200⟩, ⟨194400, 989100, 117649, 573735⟩, ⟨233280, 1175724, 139968, 688431⟩,
  ⟨279936, 1371679, 163296, 825807⟩, ⟨326592, 1600292, 194400, 989103⟩, ⟨381024, 1866999, 233280, 1175727⟩, ⟨444528, 2178100, 279936, 1371682⟩,
  ⟨518616, 2540651, 326592, 1600295⟩, ⟨605052, 2960826, 381024, 1867002⟩, ⟨705894, 3442428, 444528, 2178103⟩, ⟨839808, 4130604, 518616, 2540654⟩,
  ⟨979776, 4954860, 605052, 2960829⟩, ⟨1166400, 5934636, 705894, 3442431⟩, ⟨1399680, 7054380, 839808, 4130607⟩, ⟨1679616, 8230111, 979776, 4954863⟩,
  ⟨1959552, 9601796, 1166400, 5934639⟩, ⟨2286144, 11202087, 1399680, 7054383⟩, ⟨2667168, 13069036, 1679616, 8230114⟩, ⟨3111696, 15246743, 1959552, 9601799⟩,
  ⟨3630312, 17784600, 2286144, 11202090⟩, ⟨4235364, 20725825, 2667168, 13069039⟩, ⟨5038848, 24783660, 3111696, 15246746⟩, ⟨5878656, 29729196, 3630312, 17784603⟩,
  ⟨6998400, 35607852, 4235364, 20725828⟩, ⟨8398080, 42326316, 5038848, 24783663⟩, ⟨10077696, 49380703, 5878656, 29729199⟩, ⟨11757312, 57610820, 6998400, 35607855⟩,
  ⟨13716864, 67212615, 8398080, 42326319⟩, ⟨16003008, 78414652, 10077696, 49380706⟩, ⟨18670176, 91483295, 11757312, 57610823⟩, ⟨21781872, 106727244, 13716864, 67212618⟩,
  ⟨25412184, 124492243, 16003008, 78414655⟩, ⟨30233088, 148701996, 18670176, 91483298⟩, ⟨35271936, 178375212, 21781872, 106727247⟩, ⟨41990400, 213647148, 25412184, 124492246⟩,
  ⟨50388480, 253957932, 30233088, 148701999⟩, ⟨60466176, 296284255, 35271936, 178375215⟩, ⟨70543872, 345664964, 41990400, 213647151⟩, ⟨82301184, 403275783, 50388480, 253957935⟩,
  ⟨96018048, 470488348, 60466176, 296284258⟩, ⟨112021056, 548902607, 70543872, 345664967⟩, ⟨130691232, 640383108, 82301184, 403275786⟩, ⟨152473104, 747090751, 96018048, 470488351⟩,
  ⟨181398528, 892212012, 112021056, 548902610⟩, ⟨211631616, 1070251308, 130691232, 640383111⟩, ⟨251942400, 1281882924, 152473104, 747090754⟩, ⟨302330880, 1523747628, 181398528, 892212015⟩,
  ⟨362797056, 1777705567, 211631616, 1070251311⟩, ⟨423263232, 2073989828, 251942400, 1281882927⟩, ⟨493807104, 2419654791, 302330880, 1523747631⟩, ⟨576108288, 2822930524, 362797056, 1777705570⟩,
  ⟨672126336, 3293418479, 423263232, 2073989831⟩, ⟨784147392, 3842318292, 493807104, 2419654794⟩, ⟨914838624, 4482681799, 576108288, 2822930527⟩, ⟨1088391168, 5353272108, 672126336, 3293418482⟩,
  ⟨1269789696, 6421507884, 784147392, 3842318295⟩, ⟨1511654400, 7691297580, 914838624, 4482681802⟩, ⟨1813985280, 9142485804, 1088391168, 5353272111⟩, ⟨2176782336, 10666233439, 1269789696, 6421507887⟩,
  ⟨2539579392, 12443939012, 1511654400, 7691297583⟩, ⟨2962842624, 14517928839, 1813985280, 9142485807⟩, ⟨3456649728, 16937583580, 2176782336, 10666233442⟩, ⟨4032758016, 19760513711, 2539579392, 12443939015⟩,
  ⟨4704884352, 23053929396, 2962842624, 14517928842⟩, ⟨5489031744, 26896228087, 3456649728, 16937583583⟩, ⟨6530347008, 32119632684, 4032758016, 19760513714⟩, ⟨7618738176, 38529047340, 4704884352, 23053929399⟩,
  ⟨9069926400, 46147785516, 5489031744, 26896228090⟩, ⟨10883911680, 54854914860, 6530347008, 32119632687⟩, ⟨13060694016, 63997400671, 7618738176, 38529047343⟩, ⟨15237476352, 74663634116, 9069926400, 46147785519⟩,
  ⟨17777055744, 87107573127, 10883911680, 54854914863⟩, ⟨20739898368, 101625501916, 13060694016, 63997400674⟩, ⟨24196548096, 118563085103, 15237476352, 74663634119⟩, ⟨28229306112, 138323596020, 17777055744, 87107573130⟩,
  ⟨32934190464, 161377505815, 20739898368, 101625501919⟩, ⟨39182082048, 192717796140, 24196548096, 118563085106⟩, ⟨45712429056, 231174284076, 28229306112, 138323596023⟩, ⟨54419558400, 276886713132, 32934190464, 161377505818⟩,
  ⟨65303470080, 329129489196, 39182082048, 192717796143⟩, ⟨78364164096, 383984404063, 45712429056, 231174284079⟩, ⟨91424858112, 447981804740, 54419558400, 276886713135⟩, ⟨106662334464, 522645438855, 65303470080, 329129489199⟩,
  ⟨124439390208, 609753011932, 78364164096, 383984404066⟩, ⟨145179288576, 711378513455, 91424858112, 447981804743⟩, ⟨169375836672, 829941595764, 106662334464, 522645438858⟩, ⟨197605142784, 968265172183, 124439390208, 609753011935⟩,
  ⟨235092492288, 1156306776876, 145179288576, 711378513458⟩, ⟨274274574336, 1387045704492, 169375836672, 829941595767⟩, ⟨326517350400, 1661320278828, 197605142784, 968265172186⟩, ⟨391820820480, 1974776935212, 235092492288, 1156306776879⟩,
  ⟨470184984576, 2303906424415, 274274574336, 1387045704495⟩, ⟨548549148672, 2687890828484, 326517350400, 1661320278831⟩, ⟨639974006784, 3135872633223, 391820820480, 1974776935215⟩, ⟨746636341248, 3658518072028, 470184984576, 2303906424418⟩,
  ⟨871075731456, 4268271083567, 548549148672, 2687890828487⟩, ⟨1016255020032, 4979649594228, 639974006784, 3135872633226⟩, ⟨1185630856704, 5809591170391, 746636341248, 3658518072031⟩, ⟨1410554953728, 6937840661292, 871075731456, 4268271083570⟩,
  ⟨1645647446016, 8322274226988, 1016255020032, 4979649594231⟩, ⟨1959104102400, 9967921673004, 1185630856704, 5809591170394⟩, ⟨2350924922880, 11848661611308, 1410554953728, 6937840661295⟩, ⟨2821109907456, 13823438546527, 1645647446016, 8322274226991⟩,
  ⟨3291294892032, 16127344970948, 1959104102400, 9967921673007⟩, ⟨3839844040704, 18815235799431, 2350924922880, 11848661611311⟩, ⟨4479818047488, 21951108432604, 2821109907456, 13823438546530⟩, ⟨5226454388736, 25609626504239, 3291294892032, 16127344970951⟩,
  ⟨6097530120192, 29877897585012, 3839844040704, 18815235799434⟩, ⟨7113785140224, 34857547159639, 4479818047488, 21951108432607⟩, ⟨8463329722368, 41627043967788, 5226454388736, 25609626504242⟩, ⟨9873884676096, 49933645361964, 6097530120192, 29877897585015⟩,
  ⟨11754624614400, 59807530038060, 7113785140224, 34857547159642⟩, ⟨14105549537280, 71091969667884, 8463329722368, 41627043967791⟩, ⟨16926659444736, 82940631279199, 9873884676096, 49933645361967⟩, ⟨19747769352192, 96764069825732, 11754624614400, 59807530038063⟩,
  ⟨23039064244224, 112891414796679, 14105549537280, 71091969667887⟩, ⟨26878908284928, 131706650596060, 16926659444736, 82940631279202⟩, ⟨31358726332416, 153657759028271, 19747769352192, 96764069825735⟩, ⟨36585180721152, 179267385529716, 23039064244224, 112891414796682⟩,
  ⟨42682710841344, 209145283095127, 26878908284928, 131706650596063⟩, ⟨50779978334208, 249762263806764, 31358726332416, 153657759028274⟩, ⟨59243308056576, 299601872171820, 36585180721152, 179267385529719⟩, ⟨70527747686400, 358845180228396, 42682710841344, 209145283095130⟩,
  ⟨84633297223680, 426551818007340, 50779978334208, 249762263806767⟩, ⟨101559956668416, 497643787675231, 59243308056576, 299601872171823⟩, ⟨118486616113152, 580584418954436, 70527747686400, 358845180228399⟩, ⟨138234385465344, 677348488780167, 84633297223680, 426551818007343⟩,
  ⟨161273449709568, 790239903576796, 101559956668416, 497643787675234⟩, ⟨188152357994496, 921946554172463, 118486616113152, 580584418954439⟩, ⟨219511084326912, 1075604313197940, 138234385465344, 677348488780170⟩, ⟨256096265048064, 1254871698708055, 161273449709568, 790239903576799⟩,
  ⟨304679870005248, 1498573582840620, 188152357994496, 921946554172466⟩, ⟨355459848339456, 1797611233030956, 219511084326912, 1075604313197943⟩, ⟨423166486118400, 2153071081370412, 256096265048064, 1254871698708058⟩, ⟨507799783342080, 2559310908044076, 304679870005248, 1498573582840623⟩,
  ⟨609359740010496, 2985862726051423, 355459848339456, 1797611233030959⟩, ⟨710919696678912, 3483506513726660, 423166486118400, 2153071081370415⟩, ⟨829406312792064, 4064090932681095, 507799783342080, 2559310908044079⟩, ⟨967640698257408, 4741439421461212, 609359740010496, 2985862726051426⟩,
  ⟨1128914147966976, 5531679325037615, 710919696678912, 3483506513726663⟩, ⟨1317066505961472, 6453625879207284, 829406312792064, 4064090932681098⟩, ⟨1536577590288384, 7529230192385623, 967640698257408, 4741439421461215⟩, ⟨1828079220031488, 8991441497043756, 1128914147966976, 5531679325037618⟩,
  ⟨2132759090036736, 10785667398185772, 1317066505961472, 6453625879207287⟩, ⟨2538998916710400, 12918426488222508, 1536577590288384, 7529230192385626⟩, ⟨3046798700052480, 15355865448264492, 1828079220031488, 8991441497043759⟩, ⟨3656158440062976, 17915176356308575, 2132759090036736, 10785667398185775⟩,
  ⟨4265518180073472, 20901039082360004, 2538998916710400, 12918426488222511⟩, ⟨4976437876752384, 24384545596086663, 3046798700052480, 15355865448264495⟩, ⟨5805844189544448, 28448636528767708, 3656158440062976, 17915176356308578⟩, ⟨6773484887801856, 33190075950228527, 4265518180073472, 20901039082360007⟩,
  ⟨7902399035768832, 38721755275263348, 4976437876752384, 24384545596086666⟩, ⟨9219465541730304, 45175381154451031, 5805844189544448, 28448636528767711⟩, ⟨10968475320188928, 53948648982262572, 6773484887801856, 33190075950228530⟩, ⟨12796554540220416, 64714004389114668, 7902399035768832, 38721755275263351⟩,
  ⟨15233993500262400, 77510558929335084, 9219465541730304, 45175381154451034⟩, ⟨18280792200314880, 92135192689586988, 10968475320188928, 53948648982262575⟩, ⟨21936950640377856, 107491058137851487, 12796554540220416, 64714004389114671⟩, ⟨25593109080440832, 125406234494160068, 15233993500262400, 77510558929335087⟩,
  ⟨29858627260514304, 146307273576520071, 18280792200314880, 92135192689586991⟩, ⟨34835065137266688, 170691819172606684, 21936950640377856, 107491058137851490⟩, ⟨40640909326811136, 199140455701373999, 25593109080440832, 125406234494160071⟩, ⟨47414394214612992, 232330531651599732, 29858627260514304, 146307273576520074⟩,
  ⟨55316793250381824, 271052286926843479, 34835065137266688, 170691819172606687⟩, ⟨65810851921133568, 323691893893575468, 40640909326811136, 199140455701374002⟩, ⟨76779327241322496, 388284026334688044, 47414394214612992, 232330531651599735⟩, ⟨91403961001574400, 465063353576010540, 55316793250381824, 271052286926843482⟩,
  ⟨109684753201889280, 552811156137521964, 65810851921133568, 323691893893575471⟩, ⟨131621703842267136, 644946348827108959, 76779327241322496, 388284026334688047⟩, ⟨153558654482644992, 752437406964960452, 91403961001574400, 465063353576010543⟩, ⟨179151763563085824, 877843641459120519, 109684753201889280, 552811156137521967⟩,
  ⟨209010390823600128, 1024150915035640540, 131621703842267136, 644946348827108962⟩]

def rowQ (P : Qt → Qt → Bool) : List Qt → List Qt → Bool
  | b :: bs, c :: cs => (P b c).and (rowQ P bs cs)
  | _, _ => true

def tabQ2 (P : Qt → Qt → Qt → Bool) (L : List Qt) : List Qt → List Qt → Bool
  | a :: as, c :: cs => (rowQ (P a) L (c :: cs)).and (tabQ2 P L as cs)
  | _, _ => true

theorem rowQ_at {P : Qt → Qt → Bool} : ∀ {L C : List Qt}, rowQ P L C = true → ∀ {j : Nat} {b c : Qt}, L[j]? = some b → C[j]? = some c → P b c = true
  | [], _, _, j, b, c, h1, _ => by simp at h1
  | _ :: _, [], _, j, b, c, _, h2 => by simp at h2
  | b0 :: L, c0 :: C, h, j, b, c, h1, h2 => by
    rw [rowQ, Bool.and_eq_true] at h
    cases j with
    | zero => simp at h1 h2; subst h1; subst h2; exact h.1
    | succ j => exact rowQ_at h.2 (by simpa using h1) (by simpa using h2)

theorem tabQ2_at {P : Qt → Qt → Qt → Bool} {L : List Qt} : ∀ {A C : List Qt}, tabQ2 P L A C = true → ∀ {i j : Nat} {a b c : Qt}, A[i]? = some a → L[j]? = some b → C[i + j]? = some c → P a b c = true
  | [], _, _, i, _, _, _, _, h1, _, _ => by simp at h1
  | _ :: _, [], _, i, _, _, _, _, _, _, h2 => by simp at h2
  | a0 :: A, c0 :: C, h, i, j, a, b, c, h1, h2, h3 => by
    rw [tabQ2, Bool.and_eq_true] at h
    cases i with
    | zero => simp at h1; subst h1; rw [Nat.zero_add] at h3; exact rowQ_at h.1 h2 h3
    | succ i => exact tabQ2_at h.2 (by simpa using h1) h2 (by rw [Nat.add_right_comm] at h3; simpa using h3)

/-- A call, a cons of values, a let of a value. -/
def pCall (a b c : Qt) : Bool := (Nat.ble (Nat.add a.ue b.ue) c.ue).and (Nat.ble (Nat.add (Nat.add a.ve b.ve) 2) c.ve)
def pCons (a b c : Qt) : Bool := (Nat.ble (Nat.add a.uv b.uv) c.uv).and (Nat.ble (Nat.add (Nat.add a.vv b.vv) 1) c.vv)
def pLet (a b c : Qt) : Bool := (Nat.ble (Nat.mul a.uv (Nat.add 1 b.ue)) c.ue).and (Nat.ble (Nat.add (Nat.mul a.vv (Nat.add 1 b.ue)) b.ve) c.ve)
def pFn (a c : Qt) : Bool := (Nat.ble a.ue c.uv).and (Nat.ble (Nat.add a.ve 3) c.vv)
def pVal (a c : Qt) : Bool := (Nat.ble a.uv c.ue).and (Nat.ble a.vv c.ve)
def pUp (a c : Qt) : Bool := ((Nat.ble a.ue c.ue).and (Nat.ble a.ve c.ve)).and ((Nat.ble a.uv c.uv).and (Nat.ble a.vv c.vv))

set_option maxRecDepth 100000 in
set_option maxHeartbeats 0 in
theorem tab_call : tabQ2 pCall (tabQ.drop 1) (tabQ.drop 1) (tabQ.drop 2) = true := by decide +kernel
set_option maxRecDepth 100000 in
set_option maxHeartbeats 0 in
theorem tab_cons : tabQ2 pCons (tabQ.drop 1) (tabQ.drop 1) (tabQ.drop 3) = true := by decide +kernel
set_option maxRecDepth 100000 in
set_option maxHeartbeats 0 in
theorem tab_let : tabQ2 pLet (tabQ.drop 1) (tabQ.drop 1) (tabQ.drop 5) = true := by decide +kernel
set_option maxRecDepth 100000 in
set_option maxHeartbeats 0 in
theorem tab_fn : rowQ pFn (tabQ.drop 1) (tabQ.drop 4) = true := by decide +kernel
set_option maxRecDepth 100000 in
set_option maxHeartbeats 0 in
theorem tab_val : rowQ pVal tabQ tabQ = true := by decide +kernel
set_option maxRecDepth 100000 in
set_option maxHeartbeats 0 in
theorem tab_up : rowQ pUp tabQ (tabQ.drop 1) = true := by decide +kernel
set_option maxRecDepth 100000 in
theorem tab_len : tabQ.length = 241 := by decide +kernel

def ue (n : Nat) : Nat := (tabQ.getD n ⟨0, 0, 0, 0⟩).ue
def ve (n : Nat) : Nat := (tabQ.getD n ⟨0, 0, 0, 0⟩).ve
def uv (n : Nat) : Nat := (tabQ.getD n ⟨0, 0, 0, 0⟩).uv
def vv (n : Nat) : Nat := (tabQ.getD n ⟨0, 0, 0, 0⟩).vv

theorem tabQ_at {n : Nat} (h : n ≤ 240) : ∃ q, tabQ[n]? = some q ∧ ue n = q.ue ∧ ve n = q.ve ∧ uv n = q.uv ∧ vv n = q.vv := by
  have hl : n < tabQ.length := by rw [tab_len]; omega
  refine ⟨tabQ[n], List.getElem?_eq_getElem hl, ?_, ?_, ?_, ?_⟩ <;> simp [ue, ve, uv, vv, List.getD_eq_getElem?_getD, List.getElem?_eq_getElem hl]

theorem tq_call {a b n : Nat} (ha : 1 ≤ a) (hb : 1 ≤ b) (hn : a + b = n) (h : n ≤ 240) : ue a + ue b ≤ ue n ∧ ve a + ve b + 2 ≤ ve n := by
  obtain ⟨qa, h1, h2, h3, -, -⟩ := tabQ_at (n := a) (by omega)
  obtain ⟨qb, k1, k2, k3, -, -⟩ := tabQ_at (n := b) (by omega)
  obtain ⟨qc, l1, l2, l3, -, -⟩ := tabQ_at (n := n) h
  have := tabQ2_at tab_call (i := a - 1) (j := b - 1) (a := qa) (b := qb) (c := qc) (by rw [List.getElem?_drop, show 1 + (a - 1) = a by omega]; exact h1) (by rw [List.getElem?_drop, show 1 + (b - 1) = b by omega]; exact k1) (by rw [List.getElem?_drop, show 2 + (a - 1 + (b - 1)) = n by omega]; exact l1)
  simp only [pCall, Bool.and_eq_true, Nat.ble_eq] at this
  rw [h2, h3, k2, k3, l2, l3]
  exact this

theorem tq_cons {a b n : Nat} (ha : 1 ≤ a) (hb : 1 ≤ b) (hn : a + b + 1 = n) (h : n ≤ 240) : uv a + uv b ≤ uv n ∧ vv a + vv b + 1 ≤ vv n := by
  obtain ⟨qa, h1, -, -, h2, h3⟩ := tabQ_at (n := a) (by omega)
  obtain ⟨qb, k1, -, -, k2, k3⟩ := tabQ_at (n := b) (by omega)
  obtain ⟨qc, l1, -, -, l2, l3⟩ := tabQ_at (n := n) h
  have := tabQ2_at tab_cons (i := a - 1) (j := b - 1) (a := qa) (b := qb) (c := qc) (by rw [List.getElem?_drop, show 1 + (a - 1) = a by omega]; exact h1) (by rw [List.getElem?_drop, show 1 + (b - 1) = b by omega]; exact k1) (by rw [List.getElem?_drop, show 3 + (a - 1 + (b - 1)) = n by omega]; exact l1)
  simp only [pCons, Bool.and_eq_true, Nat.ble_eq] at this
  rw [h2, h3, k2, k3, l2, l3]
  exact this

theorem tq_let {a b n : Nat} (ha : 1 ≤ a) (hb : 1 ≤ b) (hn : a + b + 3 = n) (h : n ≤ 240) : uv a * (1 + ue b) ≤ ue n ∧ vv a * (1 + ue b) + ve b ≤ ve n := by
  obtain ⟨qa, h1, -, -, h2, h3⟩ := tabQ_at (n := a) (by omega)
  obtain ⟨qb, k1, k2, k3, -, -⟩ := tabQ_at (n := b) (by omega)
  obtain ⟨qc, l1, l2, l3, -, -⟩ := tabQ_at (n := n) h
  have := tabQ2_at tab_let (i := a - 1) (j := b - 1) (a := qa) (b := qb) (c := qc) (by rw [List.getElem?_drop, show 1 + (a - 1) = a by omega]; exact h1) (by rw [List.getElem?_drop, show 1 + (b - 1) = b by omega]; exact k1) (by rw [List.getElem?_drop, show 5 + (a - 1 + (b - 1)) = n by omega]; exact l1)
  simp only [pLet, Bool.and_eq_true, Nat.ble_eq] at this
  rw [h2, h3, k2, k3, l2, l3]
  exact this

theorem tq_fn {a n : Nat} (ha : 1 ≤ a) (hn : a + 3 = n) (h : n ≤ 240) : ue a ≤ uv n ∧ ve a + 3 ≤ vv n := by
  obtain ⟨qa, h1, h2, h3, -, -⟩ := tabQ_at (n := a) (by omega)
  obtain ⟨qc, l1, -, -, l2, l3⟩ := tabQ_at (n := n) h
  have := rowQ_at tab_fn (j := a - 1) (b := qa) (c := qc) (by rw [List.getElem?_drop, show 1 + (a - 1) = a by omega]; exact h1) (by rw [List.getElem?_drop, show 4 + (a - 1) = n by omega]; exact l1)
  simp only [pFn, Bool.and_eq_true, Nat.ble_eq] at this
  rw [h2, h3, l2, l3]
  exact this

theorem tq_val {n : Nat} (h : n ≤ 240) : uv n ≤ ue n ∧ vv n ≤ ve n := by
  obtain ⟨q, h1, h2, h3, h4, h5⟩ := tabQ_at h
  have := rowQ_at tab_val (j := n) h1 h1
  simp only [pVal, Bool.and_eq_true, Nat.ble_eq] at this
  rw [h2, h3, h4, h5]
  exact this

theorem tq_up1 {n : Nat} (h : n + 1 ≤ 240) : (ue n ≤ ue (n + 1) ∧ ve n ≤ ve (n + 1)) ∧ uv n ≤ uv (n + 1) ∧ vv n ≤ vv (n + 1) := by
  obtain ⟨q, h1, h2, h3, h4, h5⟩ := tabQ_at (n := n) (by omega)
  obtain ⟨q', k1, k2, k3, k4, k5⟩ := tabQ_at h
  have := rowQ_at tab_up (j := n) h1 (by rw [List.getElem?_drop, Nat.add_comm]; exact k1)
  simp only [pUp, Bool.and_eq_true, Nat.ble_eq] at this
  rw [h2, h3, h4, h5, k2, k3, k4, k5]
  exact this

theorem tq_up {n : Nat} : ∀ {k : Nat}, n ≤ k → k ≤ 240 → (ue n ≤ ue k ∧ ve n ≤ ve k) ∧ uv n ≤ uv k ∧ vv n ≤ vv k := by
  intro k
  induction k with
  | zero =>
    intro h _
    obtain rfl : n = 0 := by omega
    exact ⟨⟨Nat.le_refl _, Nat.le_refl _⟩, Nat.le_refl _, Nat.le_refl _⟩
  | succ k ih =>
    intro h h2
    by_cases e : n = k + 1
    · subst e; exact ⟨⟨Nat.le_refl _, Nat.le_refl _⟩, Nat.le_refl _, Nat.le_refl _⟩
    · obtain ⟨⟨a, b⟩, c, d⟩ := ih (by omega) (by omega)
      obtain ⟨⟨a', b'⟩, c', d'⟩ := tq_up1 h2
      exact ⟨⟨Nat.le_trans a a', Nat.le_trans b b'⟩, Nat.le_trans c c', Nat.le_trans d d'⟩

set_option maxRecDepth 100000 in
theorem tq_one : ue 1 = 1 ∧ ve 1 = 2 ∧ uv 1 = 1 ∧ vv 1 = 2 := by decide +kernel
set_option maxRecDepth 100000 in
theorem tq_top : ve 240 ≤ 4000000000000000000 := by decide +kernel
end Go.Proofs.YtnbhnjokpcdnnaaGreatDoor

/- What typing may make: a tree whose names are in sight makes at most M * u + v types, if no name in sight makes more than M. -/
namespace Go.Proofs.YtnbhnjokpcdnnaaGreatDoor

/-- Is it a value? -/
def isV : Nat → Code → Option Bool
  | 0, _ => none
  | n + 1, t => if kindOf t = [110, 117, 109] ∨ kindOf t = [98, 111, 111, 108] ∨ kindOf t = [110, 105, 108] ∨ kindOf t = [118, 97, 114] ∨ kindOf t = [102, 110] then some true else if kindOf t = [112, 97, 105, 114] ∨ kindOf t = [99, 111, 110, 115] then (match subsOf t with
    | a :: b :: _ => (isV n a).bind fun x => (isV n b).bind fun y => some (x && y)
    | _ => none) else some false

theorem isV_up : ∀ (n : Nat) (t : Code) (c : Bool), isV n t = some c → isV (n + 1) t = some c
  | 0, _, _, h => by cases h
  | n + 1, t, c, h => by
    rw [isV] at h ⊢
    split at h
    · rename_i hk
      rw [if_pos hk]
      exact h
    · rename_i hk
      rw [if_neg hk]
      split at h
      · rename_i hk'
        rw [if_pos hk']
        split at h
        · rename_i a b l hs
          obtain ⟨x, hx, h⟩ := bindS h
          obtain ⟨y, hy, h⟩ := bindS h
          simp only [isV_up n a x hx, isV_up n b y hy, Option.bind_some]
          exact h
        · cases h
      · rename_i hk'
        rw [if_neg hk']
        exact h

/-- A pattern, the names that it binds (the last first), the types that it makes. -/
def Pt : Nat → Code → List (List UInt8) → Nat → Prop
  | 0, _, _, _ => False
  | n + 1, q, xs, c => 1 ≤ c ∧ ((∃ x, q = nd [118, 97, 114] 0 x [] [] [] ∧ xs = [x]) ∨ (∃ k z, (k = [110, 117, 109] ∨ k = [98, 111, 111, 108] ∨ k = [97, 110, 121] ∨ k = [110, 105, 108]) ∧ q = nd k z [] [] [] [] ∧ xs = [] ∧ 2 ≤ c) ∨
    (∃ k a b xa ca xb cb, (k = [112, 97, 105, 114] ∨ k = [99, 111, 110, 115]) ∧ q = nd k 0 [] [] [a, b] [] ∧ Pt n a xa ca ∧ Pt n b xb cb ∧ xs = xb ++ xa ∧ ca + cb + 1 ≤ c))

section
variable (R : List (List UInt8) → Code → Nat → Nat → Prop)
/-- The functions of a group. -/
def CtG (ns : List (List UInt8)) : List Code → Nat → Nat → Prop
  | [], _, _ => True
  | d :: ds, U, V => ∃ x o b ub vb U' V', d = nd [100, 101, 102] 0 x o [b] [] ∧ R (x :: ns) b ub vb ∧ CtG ns ds U' V' ∧ ub + U' ≤ U ∧ vb + 3 + V' ≤ V

/-- Clauses. -/
def CtA (n : Nat) (ns : List (List UInt8)) : List Code → List Code → Nat → Nat → Prop
  | [], [], _, _ => True
  | b :: bs, q :: qs, U, V => ∃ xs c ub vb U' V', Pt n q xs c ∧ R (xs ++ ns) b ub vb ∧ CtA n ns bs qs U' V' ∧ ub + U' ≤ U ∧ c + vb + V' ≤ V
  | _, _, _, _ => False
end

def lfK (k : List UInt8) : Prop := k = [110, 117, 109] ∨ k = [114, 101, 97, 100] ∨ k = [98, 111, 111, 108] ∨ k = [110, 105, 108]
def opsK (k : List UInt8) : Prop := k = [43] ∨ k = [45] ∨ k = [42] ∨ k = [47] ∨ k = [61] ∨ k = [60]
/-- What has two parts, and the types that it makes itself. -/
def twK (k : List UInt8) (c : Nat) : Prop := ((k = [112, 97, 105, 114] ∨ k = [99, 111, 110, 115]) ∧ c = 1) ∨ (k = [99, 97, 108, 108] ∧ c = 2) ∨ ((opsK k ∨ k = [116, 104, 114, 111, 119]) ∧ c = 3)
def onK (k : List UInt8) : Prop := k = [114, 97, 105, 115, 101] ∨ k = [112, 114, 105, 110, 116] ∨ k = [99, 97, 108, 108, 99, 99]

def Cst : Nat → List (List UInt8) → Code → Nat → Nat → Prop
  | 0, _, _, _, _ => False
  | n + 1, ns, t, u, v => 1 ≤ u ∧ 1 ≤ v ∧ (
    (∃ k z, lfK k ∧ t = nd k z [] [] [] [] ∧ 2 ≤ v) ∨
    (∃ x, t = nd [118, 97, 114] 0 x [] [] [] ∧ x ∈ ns) ∨
    (∃ x b ub vb, t = nd [102, 110] 0 x [] [b] [] ∧ Cst n (x :: ns) b ub vb ∧ ub ≤ u ∧ vb + 2 ≤ v) ∨
    (∃ x a b ua va ub vb c, t = nd [108, 101, 116] 0 x [] [a, b] [] ∧ Cst n ns a ua va ∧ Cst n (x :: ns) b ub vb ∧ isV n a = some c ∧ (c = true → ua * (1 + ub) ≤ u ∧ va * (1 + ub) + vb ≤ v) ∧ (c = false → ua + ub ≤ u ∧ va + vb ≤ v)) ∨
    (∃ ds b U V ub vb, t = nd [114, 101, 99] 0 [] [] (ds ++ [b]) [] ∧ ds ≠ [] ∧ 1 ≤ U ∧ CtG (Cst n) (ds.map ownOf ++ ns) ds U V ∧ Cst n (ds.map ownOf ++ ns) b ub vb ∧ U * (1 + ub) ≤ u ∧ V * (1 + ub) + vb ≤ v) ∨
    (∃ k a b ua va ub vb c, twK k c ∧ t = nd k 0 [] [] [a, b] [] ∧ Cst n ns a ua va ∧ Cst n ns b ub vb ∧ ua + ub ≤ u ∧ va + vb + c ≤ v) ∨
    (∃ k a ua va, onK k ∧ t = nd k 0 [] [] [a] [] ∧ Cst n ns a ua va ∧ ua ≤ u ∧ va + 4 ≤ v) ∨
    (∃ a b d ua va ub vb ud vd, t = nd [105, 102] 0 [] [] [a, b, d] [] ∧ Cst n ns a ua va ∧ Cst n ns b ub vb ∧ Cst n ns d ud vd ∧ ua + ub + ud ≤ u ∧ va + vb + vd + 1 ≤ v) ∨
    (∃ x a b ua va ub vb, t = nd [116, 114, 121] 0 x [] [a, b] [] ∧ Cst n ns a ua va ∧ Cst n (x :: ns) b ub vb ∧ ua + ub ≤ u ∧ va + vb + 2 ≤ v) ∨
    (∃ a bs qs ua va U V, t = nd [109, 97, 116, 99, 104] 0 [] [] (a :: bs) qs ∧ Cst n ns a ua va ∧ CtA (Cst n) n ns bs qs U V ∧ ua + U ≤ u ∧ va + V + 1 ≤ v))

theorem Pt.up : ∀ (n : Nat) (q : Code) (xs : List (List UInt8)) (c : Nat), Pt n q xs c → Pt (n + 1) q xs c
  | 0, _, _, _, h => h.elim
  | n + 1, q, xs, c, ⟨h0, h⟩ => by
    refine ⟨h0, ?_⟩
    rcases h with h | h | ⟨k, a, b, xa, ca, xb, cb, h1, h2, h3, h4, h5, h6⟩
    · exact .inl h
    · exact .inr (.inl h)
    · exact .inr (.inr ⟨k, a, b, xa, ca, xb, cb, h1, h2, Pt.up n _ _ _ h3, Pt.up n _ _ _ h4, h5, h6⟩)

theorem CtG.imp {R R' : List (List UInt8) → Code → Nat → Nat → Prop} (h : ∀ ns t u v, R ns t u v → R' ns t u v) {ns : List (List UInt8)} : ∀ {ds : List Code} {U V : Nat}, CtG R ns ds U V → CtG R' ns ds U V
  | [], _, _, _ => trivial
  | _ :: _, _, _, ⟨x, o, b, ub, vb, U', V', h1, h2, h3, h4, h5⟩ => ⟨x, o, b, ub, vb, U', V', h1, h _ _ _ _ h2, CtG.imp h h3, h4, h5⟩

theorem CtA.imp {R R' : List (List UInt8) → Code → Nat → Nat → Prop} {n n' : Nat} (h : ∀ ns t u v, R ns t u v → R' ns t u v) (hp : ∀ q xs c, Pt n q xs c → Pt n' q xs c) {ns : List (List UInt8)} : ∀ {bs qs : List Code} {U V : Nat}, CtA R n ns bs qs U V → CtA R' n' ns bs qs U V
  | [], [], _, _, _ => trivial
  | _ :: _, _ :: _, _, _, ⟨xs, c, ub, vb, U', V', h1, h2, h3, h4, h5⟩ => ⟨xs, c, ub, vb, U', V', hp _ _ _ h1, h _ _ _ _ h2, CtA.imp h hp h3, h4, h5⟩
  | [], _ :: _, _, _, h => h.elim
  | _ :: _, [], _, _, h => h.elim

theorem Cst.up : ∀ (n : Nat) (ns : List (List UInt8)) (t : Code) (u v : Nat), Cst n ns t u v → Cst (n + 1) ns t u v
  | 0, _, _, _, _, h => h.elim
  | n + 1, ns, t, u, v, ⟨h0, h0', h⟩ => by
    have ih := Cst.up n
    refine ⟨h0, h0', ?_⟩
    rcases h with h | h | ⟨x, b, ub, vb, h1, h2, h3, h4⟩ | ⟨x, a, b, ua, va, ub, vb, c, h1, h2, h3, h4, h5, h6⟩ | ⟨ds, b, U, V, ub, vb, h1, h2, h3, h4, h5, h6, h7⟩ | ⟨k, a, b, ua, va, ub, vb, c, h1, h2, h3, h4, h5, h6⟩ | ⟨k, a, ua, va, h1, h2, h3, h4, h5⟩ | ⟨a, b, d, ua, va, ub, vb, ud, vd, h1, h2, h3, h4, h5, h6⟩ | ⟨x, a, b, ua, va, ub, vb, h1, h2, h3, h4, h5⟩ | ⟨a, bs, qs, ua, va, U, V, h1, h2, h3, h4, h5⟩
    · exact .inl h
    · exact .inr (.inl h)
    · exact .inr (.inr (.inl ⟨x, b, ub, vb, h1, ih _ _ _ _ h2, h3, h4⟩))
    · exact .inr (.inr (.inr (.inl ⟨x, a, b, ua, va, ub, vb, c, h1, ih _ _ _ _ h2, ih _ _ _ _ h3, isV_up _ _ _ h4, h5, h6⟩)))
    · exact .inr (.inr (.inr (.inr (.inl ⟨ds, b, U, V, ub, vb, h1, h2, h3, CtG.imp ih h4, ih _ _ _ _ h5, h6, h7⟩))))
    · exact .inr (.inr (.inr (.inr (.inr (.inl ⟨k, a, b, ua, va, ub, vb, c, h1, h2, ih _ _ _ _ h3, ih _ _ _ _ h4, h5, h6⟩)))))
    · exact .inr (.inr (.inr (.inr (.inr (.inr (.inl ⟨k, a, ua, va, h1, h2, ih _ _ _ _ h3, h4, h5⟩))))))
    · exact .inr (.inr (.inr (.inr (.inr (.inr (.inr (.inl ⟨a, b, d, ua, va, ub, vb, ud, vd, h1, ih _ _ _ _ h2, ih _ _ _ _ h3, ih _ _ _ _ h4, h5, h6⟩)))))))
    · exact .inr (.inr (.inr (.inr (.inr (.inr (.inr (.inr (.inl ⟨x, a, b, ua, va, ub, vb, h1, ih _ _ _ _ h2, ih _ _ _ _ h3, h4, h5⟩))))))))
    · exact .inr (.inr (.inr (.inr (.inr (.inr (.inr (.inr (.inr ⟨a, bs, qs, ua, va, U, V, h1, ih _ _ _ _ h2, CtA.imp ih (Pt.up n) h3, h4, h5⟩))))))))

theorem Cst.pos {n : Nat} {ns : List (List UInt8)} {t : Code} {u v : Nat} (h : Cst n ns t u v) : 1 ≤ u ∧ 1 ≤ v := by
  cases n with
  | zero => exact h.elim
  | succ n => exact ⟨h.1, h.2.1⟩

theorem CtG.pos {n : Nat} {ns : List (List UInt8)} {ds : List Code} {U V : Nat} (h : CtG (Cst n) ns ds U V) (h0 : ds ≠ []) : 1 ≤ U := by
  cases ds with
  | nil => exact absurd rfl h0
  | cons d ds =>
    obtain ⟨x, o, b, ub, vb, U', V', h1, h2, h3, h4, h5⟩ := h
    have := h2.pos
    omega
end Go.Proofs.YtnbhnjokpcdnnaaGreatDoor

/- The words bound what typing makes. -/
namespace Go.Proofs.YtnbhnjokpcdnnaaGreatDoor

def tu (c : Bool) (n : Nat) : Nat := if c then uv n else ue n
def tv (c : Bool) (n : Nat) : Nat := if c then vv n else ve n

theorem tu_le {c : Bool} {n : Nat} (h : n ≤ 240) : tu c n ≤ ue n ∧ tv c n ≤ ve n := by
  have := tq_val h
  cases c
  · exact ⟨Nat.le_refl _, Nat.le_refl _⟩
  · exact this

theorem tu_up {c : Bool} {n k : Nat} (h : n ≤ k) (h' : k ≤ 240) : tu c n ≤ tu c k ∧ tv c n ≤ tv c k := by
  obtain ⟨h1, h2⟩ := tq_up h h'
  cases c
  · exact h1
  · exact h2

theorem ve_up4 {m : Nat} (hm : 1 ≤ m) : ∀ d, m + d ≤ 240 → ve m + 4 * d ≤ ve (m + d)
  | 0, _ => by simp
  | d + 1, h => by
    have h1 := ve_up4 hm d (by omega)
    have h2 := (tq_call (a := m + d) (b := 1) (by omega) (Nat.le_refl _) rfl (by omega)).2
    have h3 := tq_one.2.1
    rw [show m + (d + 1) = m + d + 1 by omega]
    omega

theorem Cst.le {n : Nat} : ∀ {k : Nat}, n ≤ k → ∀ {ns : List (List UInt8)} {t : Code} {u v : Nat}, Cst n ns t u v → Cst k ns t u v := by
  intro k h
  induction h with
  | refl => intro _ _ _ _ h; exact h
  | step _ ih => intro _ _ _ _ h; exact Cst.up _ _ _ _ _ (ih h)
theorem Pt.le {n : Nat} : ∀ {k : Nat}, n ≤ k → ∀ {q : Code} {xs : List (List UInt8)} {c : Nat}, Pt n q xs c → Pt k q xs c := by
  intro k h
  induction h with
  | refl => intro _ _ _ h; exact h
  | step _ ih => intro _ _ _ h; exact Pt.up _ _ _ _ (ih h)
theorem isV_le {n : Nat} : ∀ {k : Nat}, n ≤ k → ∀ {t : Code} {c : Bool}, isV n t = some c → isV k t = some c := by
  intro k h
  induction h with
  | refl => intro _ _ h; exact h
  | step _ ih => intro _ _ h; exact isV_up _ _ _ (ih h)

def CtW (L : Nat) (ns : List (List UInt8)) (t : Code) : Prop := ∃ N u v c, Cst N ns t u v ∧ isV N t = some c ∧ u ≤ tu c L ∧ v ≤ tv c L

section
variable {L La Lb Lc : Nat} {ns : List (List UInt8)} {a b d : Code} {x : List UInt8}

theorem CtW.up {t : Code} (h : CtW La ns t) (hL : La ≤ L) (h' : L ≤ 240) : CtW L ns t := by
  obtain ⟨N, u, v, c, h1, h2, h3, h4⟩ := h
  have := tu_up (c := c) hL h'
  exact ⟨N, u, v, c, h1, h2, by omega, by omega⟩

theorem CtW.leaf {k : List UInt8} {z : Int} (hk : lfK k) (h : 1 ≤ L) (h' : L ≤ 240) : CtW L ns (nd k z [] [] [] []) := by
  refine CtW.up (La := 1) ?_ h h'
  obtain ⟨q1, q2, q3, q4⟩ := tq_one
  have hc : ∃ c, isV 1 (nd k z [] [] [] []) = some c := by rcases hk with rfl | rfl | rfl | rfl <;> simp [isV, kindOf_nd]
  obtain ⟨c, hc⟩ := hc
  refine ⟨1, 1, 2, c, ⟨by omega, by omega, .inl ⟨k, z, hk, rfl, by omega⟩⟩, hc, ?_, ?_⟩
  · cases c <;> simp [tu] <;> omega
  · cases c <;> simp [tv] <;> omega

theorem CtW.var {z : List UInt8} (hx : z ∈ ns) (h : 1 ≤ L) (h' : L ≤ 240) : CtW L ns (nd [118, 97, 114] 0 z [] [] []) := by
  refine CtW.up (La := 1) ?_ h h'
  obtain ⟨q1, q2, q3, q4⟩ := tq_one
  refine ⟨1, 1, 2, true, ⟨by omega, by omega, .inr (.inl ⟨z, rfl, hx⟩)⟩, by simp [isV, kindOf_nd], ?_, ?_⟩
  · simp [tu]; omega
  · simp [tv]; omega

theorem CtW.fn (hb : CtW La (x :: ns) b) (h0 : 1 ≤ La) (h : La + 3 ≤ L) (h' : L ≤ 240) : CtW L ns (nd [102, 110] 0 x [] [b] []) := by
  refine CtW.up (La := La + 3) ?_ h h'
  obtain ⟨N, u, v, c, h1, h2, h3, h4⟩ := hb
  have q := tq_fn h0 rfl (by omega : La + 3 ≤ 240)
  have q2 := tu_le (c := c) (n := La) (by omega)
  have := h1.pos
  refine ⟨N + 1, u, v + 2, true, ⟨by omega, by omega, .inr (.inr (.inl ⟨x, b, u, v, rfl, h1, by omega, by omega⟩))⟩, by simp [isV, kindOf_nd], ?_, ?_⟩
  · simp [tu]; omega
  · simp [tv]; omega

theorem CtW.two {k : List UInt8} {c : Nat} (ha : CtW La ns a) (hb : CtW Lb ns b) (ha0 : 1 ≤ La) (hb0 : 1 ≤ Lb) (hk : twK k c) (hn : La + Lb ≤ L) (h2 : c = 2 ∨ La + Lb + 1 ≤ L) (h' : L ≤ 240) : CtW L ns (nd k 0 [] [] [a, b] []) := by
  obtain ⟨N, ua, va, ca, h1, h3, h4, h5⟩ := ha
  obtain ⟨K, ub, vb, cb, k1, k3, k4, k5⟩ := hb
  have g1 := h1.le (Nat.le_max_left N K)
  have g2 := k1.le (Nat.le_max_right N K)
  have g3 := isV_le (Nat.le_max_left N K) h3
  have g4 := isV_le (Nat.le_max_right N K) k3
  have qa := tu_le (c := ca) (n := La) (by omega)
  have qb := tu_le (c := cb) (n := Lb) (by omega)
  have q := tq_call ha0 hb0 rfl (by omega : La + Lb ≤ 240)
  have p1 := h1.pos
  have p2 := k1.pos
  have hct : Cst (max N K + 1) ns (nd k 0 [] [] [a, b] []) (ua + ub) (va + vb + c) := ⟨by omega, by omega, .inr (.inr (.inr (.inr (.inr (.inl ⟨k, a, b, ua, va, ub, vb, c, hk, rfl, g1, g2, Nat.le_refl _, Nat.le_refl _⟩)))))⟩
  have hf : isV (max N K + 1) (nd k 0 [] [] [a, b] []) = some false → CtW L ns (nd k 0 [] [] [a, b] []) := by
    intro hv
    have hc : c ≤ 3 := by rcases hk with ⟨-, h⟩ | ⟨-, h⟩ | ⟨-, h⟩ <;> omega
    have u1 := (tq_up hn h').1
    refine ⟨_, _, _, false, hct, hv, ?_, ?_⟩
    · show ua + ub ≤ ue L
      omega
    · show va + vb + c ≤ ve L
      rcases h2 with h2 | h2
      · omega
      · have := ve_up4 (m := La + Lb) (by omega) (L - (La + Lb)) (by omega)
        rw [show La + Lb + (L - (La + Lb)) = L by omega] at this
        omega
  rcases hk with ⟨hk, rfl⟩ | ⟨rfl, rfl⟩ | ⟨hk, rfl⟩
  · have hv : isV (max N K + 1) (nd k 0 [] [] [a, b] []) = some (ca && cb) := by
      rcases hk with rfl | rfl <;> simp [isV, kindOf_nd, subsOf_nd, g3, g4]
    cases ca with
    | false => exact hf hv
    | true =>
      cases cb with
      | false => exact hf hv
      | true =>
        have hlt : La + Lb + 1 ≤ L := by omega
        have q' := tq_cons ha0 hb0 rfl (by omega : La + Lb + 1 ≤ 240)
        have u1 := (tq_up hlt h').2
        have e1 : ua ≤ uv La := h4
        have e2 : va ≤ vv La := h5
        have e3 : ub ≤ uv Lb := k4
        have e4 : vb ≤ vv Lb := k5
        refine ⟨_, _, _, true, hct, hv, ?_, ?_⟩
        · show ua + ub ≤ uv L
          omega
        · show va + vb + 1 ≤ vv L
          omega
  · exact hf (by simp [isV, kindOf_nd])
  · refine hf ?_
    rcases hk with (rfl | rfl | rfl | rfl | rfl | rfl) | rfl <;> simp [isV, kindOf_nd]

theorem CtW.one {k : List UInt8} (ha : CtW La ns a) (ha0 : 1 ≤ La) (hk : onK k) (hn : La + 1 ≤ L) (h' : L ≤ 240) : CtW L ns (nd k 0 [] [] [a] []) := by
  obtain ⟨N, ua, va, ca, h1, h3, h4, h5⟩ := ha
  have qa := tu_le (c := ca) (n := La) (by omega)
  have u1 := (tq_up (by omega : La ≤ L) h').1
  have := ve_up4 (m := La) ha0 (L - La) (by omega)
  rw [show La + (L - La) = L by omega] at this
  have p1 := h1.pos
  refine ⟨N + 1, ua, va + 4, false, ⟨by omega, by omega, .inr (.inr (.inr (.inr (.inr (.inr (.inl ⟨k, a, ua, va, hk, rfl, h1, Nat.le_refl _, Nat.le_refl _⟩))))))⟩, by rcases hk with rfl | rfl | rfl <;> simp [isV, kindOf_nd], ?_, ?_⟩
  · show ua ≤ ue L
    omega
  · show va + 4 ≤ ve L
    omega

theorem CtW.let_ (ha : CtW La ns a) (hb : CtW Lb (x :: ns) b) (ha0 : 1 ≤ La) (hb0 : 1 ≤ Lb) (hn : La + Lb + 4 ≤ L) (h' : L ≤ 240) : CtW L ns (nd [108, 101, 116] 0 x [] [a, b] []) := by
  obtain ⟨N, ua, va, ca, h1, h3, h4, h5⟩ := ha
  obtain ⟨K, ub, vb, cb, k1, k3, k4, k5⟩ := hb
  have g1 := h1.le (Nat.le_max_left N K)
  have g2 := k1.le (Nat.le_max_right N K)
  have g3 := isV_le (Nat.le_max_left N K) h3
  have qb := tu_le (c := cb) (n := Lb) (by omega)
  have p1 := h1.pos
  have p2 := k1.pos
  have hv : ∀ n, isV (n + 1) (nd [108, 101, 116] 0 x [] [a, b] []) = some false := fun n => by simp [isV, kindOf_nd]
  cases ca with
  | true =>
    have q := tq_let ha0 hb0 rfl (by omega : La + Lb + 3 ≤ 240)
    have u1 := (tq_up (by omega : La + Lb + 3 ≤ L) h').1
    have e1 : ua ≤ uv La := h4
    have e2 : va ≤ vv La := h5
    have m1 : ua * (1 + ub) ≤ uv La * (1 + ue Lb) := Nat.mul_le_mul e1 (by omega)
    have m2 : va * (1 + ub) ≤ vv La * (1 + ue Lb) := Nat.mul_le_mul e2 (by omega)
    have m3 : 1 * 1 ≤ ua * (1 + ub) := Nat.mul_le_mul p1.1 (by omega)
    refine ⟨max N K + 1, ua * (1 + ub), va * (1 + ub) + vb, false, ⟨by omega, by omega, .inr (.inr (.inr (.inl ⟨x, a, b, ua, va, ub, vb, true, rfl, g1, g2, g3, fun _ => ⟨Nat.le_refl _, Nat.le_refl _⟩, fun h => by cases h⟩)))⟩, hv _, ?_, ?_⟩
    · show _ ≤ ue L
      omega
    · show _ ≤ ve L
      omega
  | false =>
    have q := tq_call ha0 hb0 rfl (by omega : La + Lb ≤ 240)
    have u1 := (tq_up (by omega : La + Lb ≤ L) h').1
    have e1 : ua ≤ ue La := h4
    have e2 : va ≤ ve La := h5
    refine ⟨max N K + 1, ua + ub, va + vb, false, ⟨by omega, by omega, .inr (.inr (.inr (.inl ⟨x, a, b, ua, va, ub, vb, false, rfl, g1, g2, g3, (fun h => by cases h), fun _ => ⟨Nat.le_refl _, Nat.le_refl _⟩⟩)))⟩, hv _, ?_, ?_⟩
    · show _ ≤ ue L
      omega
    · show _ ≤ ve L
      omega

theorem CtW.try_ (ha : CtW La ns a) (hb : CtW Lb (x :: ns) b) (ha0 : 1 ≤ La) (hb0 : 1 ≤ Lb) (hn : La + Lb ≤ L) (h' : L ≤ 240) : CtW L ns (nd [116, 114, 121] 0 x [] [a, b] []) := by
  obtain ⟨N, ua, va, ca, h1, h3, h4, h5⟩ := ha
  obtain ⟨K, ub, vb, cb, k1, k3, k4, k5⟩ := hb
  have g1 := h1.le (Nat.le_max_left N K)
  have g2 := k1.le (Nat.le_max_right N K)
  have qa := tu_le (c := ca) (n := La) (by omega)
  have qb := tu_le (c := cb) (n := Lb) (by omega)
  have q := tq_call ha0 hb0 rfl (by omega : La + Lb ≤ 240)
  have u1 := (tq_up hn h').1
  have p1 := h1.pos
  refine ⟨max N K + 1, ua + ub, va + vb + 2, false, ⟨by omega, by omega, .inr (.inr (.inr (.inr (.inr (.inr (.inr (.inr (.inl ⟨x, a, b, ua, va, ub, vb, rfl, g1, g2, Nat.le_refl _, Nat.le_refl _⟩))))))))⟩, by simp [isV, kindOf_nd], ?_, ?_⟩
  · show _ ≤ ue L
    omega
  · show _ ≤ ve L
    omega

theorem CtW.if_ (ha : CtW La ns a) (hb : CtW Lb ns b) (hd : CtW Lc ns d) (ha0 : 1 ≤ La) (hb0 : 1 ≤ Lb) (hc0 : 1 ≤ Lc) (hn : La + Lb + Lc ≤ L) (h' : L ≤ 240) : CtW L ns (nd [105, 102] 0 [] [] [a, b, d] []) := by
  obtain ⟨N, ua, va, ca, h1, h3, h4, h5⟩ := ha
  obtain ⟨K, ub, vb, cb, k1, k3, k4, k5⟩ := hb
  obtain ⟨M, ud, vd, cd, l1, l3, l4, l5⟩ := hd
  have g1 := h1.le (show N ≤ N + K + M by omega)
  have g2 := k1.le (show K ≤ N + K + M by omega)
  have g3 := l1.le (show M ≤ N + K + M by omega)
  have qa := tu_le (c := ca) (n := La) (by omega)
  have qb := tu_le (c := cb) (n := Lb) (by omega)
  have qd := tu_le (c := cd) (n := Lc) (by omega)
  have q := tq_call ha0 hb0 rfl (by omega : La + Lb ≤ 240)
  have q' := tq_call (by omega : 1 ≤ La + Lb) hc0 rfl (by omega : La + Lb + Lc ≤ 240)
  have u1 := (tq_up hn h').1
  have p1 := h1.pos
  refine ⟨N + K + M + 1, ua + ub + ud, va + vb + vd + 1, false, ⟨by omega, by omega, .inr (.inr (.inr (.inr (.inr (.inr (.inr (.inl ⟨a, b, d, ua, va, ub, vb, ud, vd, rfl, g1, g2, g3, Nat.le_refl _, Nat.le_refl _⟩)))))))⟩, by simp [isV, kindOf_nd], ?_, ?_⟩
  · show _ ≤ ue L
    omega
  · show _ ≤ ve L
    omega

def CtAW (L : Nat) (ns : List (List UInt8)) (bs qs : List Code) : Prop := ∃ N U V, CtA (Cst N) N ns bs qs U V ∧ U ≤ ue L ∧ V ≤ ve L
def CtGW (L : Nat) (ns : List (List UInt8)) (ds : List Code) : Prop := ∃ N U V, CtG (Cst N) ns ds U V ∧ ds ≠ [] ∧ U ≤ uv L ∧ V ≤ vv L
def PtW (L : Nat) (q : Code) (xs : List (List UInt8)) : Prop := ∃ N c, Pt N q xs c ∧ c ≤ 2 * L

theorem CtA.le {N K : Nat} (h : N ≤ K) {bs qs : List Code} {U V : Nat} (hc : CtA (Cst N) N ns bs qs U V) : CtA (Cst K) K ns bs qs U V := hc.imp (fun _ _ _ _ h' => h'.le h) (fun _ _ _ h' => h'.le h)
theorem CtG.le {N K : Nat} (h : N ≤ K) {ds : List Code} {U V : Nat} (hc : CtG (Cst N) ns ds U V) : CtG (Cst K) ns ds U V := hc.imp (fun _ _ _ _ h' => h'.le h)

theorem CtW.match_ {bs qs : List Code} (ha : CtW La ns a) (hb : CtAW Lb ns bs qs) (ha0 : 1 ≤ La) (hb0 : 1 ≤ Lb) (hn : La + Lb ≤ L) (h' : L ≤ 240) : CtW L ns (nd [109, 97, 116, 99, 104] 0 [] [] (a :: bs) qs) := by
  obtain ⟨N, ua, va, ca, h1, h3, h4, h5⟩ := ha
  obtain ⟨K, U, V, k1, k4, k5⟩ := hb
  have g1 := h1.le (Nat.le_max_left N K)
  have g2 := k1.le (Nat.le_max_right N K)
  have qa := tu_le (c := ca) (n := La) (by omega)
  have q := tq_call ha0 hb0 rfl (by omega : La + Lb ≤ 240)
  have u1 := (tq_up hn h').1
  have p1 := h1.pos
  refine ⟨max N K + 1, ua + U, va + V + 1, false, ⟨by omega, by omega, .inr (.inr (.inr (.inr (.inr (.inr (.inr (.inr (.inr ⟨a, bs, qs, ua, va, U, V, rfl, g1, g2, Nat.le_refl _, Nat.le_refl _⟩))))))))⟩, by simp [isV, kindOf_nd], ?_, ?_⟩
  · show _ ≤ ue L
    omega
  · show _ ≤ ve L
    omega

theorem CtW.rec_ {ds : List Code} (ha : CtGW La (ds.map ownOf ++ ns) ds) (hb : CtW Lb (ds.map ownOf ++ ns) b) (ha0 : 1 ≤ La) (hb0 : 1 ≤ Lb) (hn : La + Lb + 3 ≤ L) (h' : L ≤ 240) : CtW L ns (nd [114, 101, 99] 0 [] [] (ds ++ [b]) []) := by
  obtain ⟨N, ua, va, h1, hne, h4, h5⟩ := ha
  obtain ⟨K, ub, vb, cb, k1, k3, k4, k5⟩ := hb
  have g1 := h1.le (Nat.le_max_left N K)
  have g2 := k1.le (Nat.le_max_right N K)
  have qb := tu_le (c := cb) (n := Lb) (by omega)
  have p1 := h1.pos hne
  have p2 := k1.pos
  have q := tq_let ha0 hb0 rfl (by omega : La + Lb + 3 ≤ 240)
  have u1 := (tq_up (by omega : La + Lb + 3 ≤ L) h').1
  have m1 : ua * (1 + ub) ≤ uv La * (1 + ue Lb) := Nat.mul_le_mul h4 (by omega)
  have m2 : va * (1 + ub) ≤ vv La * (1 + ue Lb) := Nat.mul_le_mul h5 (by omega)
  have m3 : 1 * 1 ≤ ua * (1 + ub) := Nat.mul_le_mul p1 (by omega)
  refine ⟨max N K + 1, ua * (1 + ub), va * (1 + ub) + vb, false, ⟨by omega, by omega, .inr (.inr (.inr (.inr (.inl ⟨ds, b, ua, va, ub, vb, rfl, hne, p1, g1, g2, Nat.le_refl _, Nat.le_refl _⟩))))⟩, by simp [isV, kindOf_nd], ?_, ?_⟩
  · show _ ≤ ue L
    omega
  · show _ ≤ ve L
    omega

theorem CtGW.one {o : List UInt8} (hb : CtW La (x :: ns) b) (h0 : 1 ≤ La) (h : La + 3 ≤ L) (h' : L ≤ 240) : CtGW L ns [nd [100, 101, 102] 0 x o [b] []] := by
  obtain ⟨N, u, v, c, h1, h2, h3, h4⟩ := hb
  have q := tq_fn h0 rfl (by omega : La + 3 ≤ 240)
  have q2 := tu_le (c := c) (n := La) (by omega)
  have u1 := (tq_up h h').2
  exact ⟨N, u, v + 3, ⟨x, o, b, u, v, 0, 0, rfl, h1, trivial, by omega, by omega⟩, by simp, by omega, by omega⟩

theorem CtGW.more {o : List UInt8} {ds : List Code} (hb : CtW La (x :: ns) b) (hd : CtGW Lb ns ds) (h0 : 1 ≤ La) (hb0 : 1 ≤ Lb) (h : La + 3 + Lb + 1 ≤ L) (h' : L ≤ 240) : CtGW L ns (nd [100, 101, 102] 0 x o [b] [] :: ds) := by
  obtain ⟨N, u, v, c, h1, h2, h3, h4⟩ := hb
  obtain ⟨K, U, V, k1, -, k4, k5⟩ := hd
  have q := tq_fn h0 rfl (by omega : La + 3 ≤ 240)
  have q2 := tu_le (c := c) (n := La) (by omega)
  have q3 := tq_cons (by omega : 1 ≤ La + 3) hb0 rfl (by omega : La + 3 + Lb + 1 ≤ 240)
  have u1 := (tq_up h h').2
  exact ⟨max N K, u + U, v + 3 + V, ⟨x, o, b, u, v, U, V, rfl, h1.le (Nat.le_max_left N K), k1.le (Nat.le_max_right N K), by omega, by omega⟩, by simp, by omega, by omega⟩

theorem CtAW.one {q : Code} {xs : List (List UInt8)} (hq : PtW La q xs) (hb : CtW Lb (xs ++ ns) b) (hb0 : 1 ≤ Lb) (h : La + Lb ≤ L) (h' : L ≤ 240) : CtAW L ns [b] [q] := by
  obtain ⟨N, u, v, c, h1, h2, h3, h4⟩ := hb
  obtain ⟨K, e, k1, k2⟩ := hq
  have q2 := tu_le (c := c) (n := Lb) (by omega)
  have u1 := (tq_up (by omega : Lb ≤ L) h').1
  have := ve_up4 (m := Lb) hb0 (L - Lb) (by omega)
  rw [show Lb + (L - Lb) = L by omega] at this
  exact ⟨max N K, u, e + v, ⟨xs, e, u, v, 0, 0, k1.le (Nat.le_max_right N K), h1.le (Nat.le_max_left N K), trivial, by omega, by omega⟩, by omega, by omega⟩

theorem CtAW.more {q : Code} {xs : List (List UInt8)} {bs qs : List Code} (hq : PtW La q xs) (hb : CtW Lb (xs ++ ns) b) (hr : CtAW Lc ns bs qs) (hb0 : 1 ≤ Lb) (hc0 : 1 ≤ Lc) (h : La + Lb + Lc ≤ L) (h' : L ≤ 240) : CtAW L ns (b :: bs) (q :: qs) := by
  obtain ⟨N, u, v, c, h1, h2, h3, h4⟩ := hb
  obtain ⟨K, e, k1, k2⟩ := hq
  obtain ⟨M, U, V, l1, l2, l3⟩ := hr
  have q2 := tu_le (c := c) (n := Lb) (by omega)
  have q3 := tq_call hb0 hc0 rfl (by omega : Lb + Lc ≤ 240)
  have u1 := (tq_up (by omega : Lb + Lc ≤ L) h').1
  have := ve_up4 (m := Lb + Lc) (by omega) (L - (Lb + Lc)) (by omega)
  rw [show Lb + Lc + (L - (Lb + Lc)) = L by omega] at this
  exact ⟨N + K + M, u + U, e + v + V, ⟨xs, e, u, v, U, V, k1.le (by omega), h1.le (by omega), l1.le (by omega), by omega, by omega⟩, by omega, by omega⟩

theorem PtW.leaf {k : List UInt8} {z : Int} (hk : k = [110, 117, 109] ∨ k = [98, 111, 111, 108] ∨ k = [97, 110, 121] ∨ k = [110, 105, 108]) (h : 1 ≤ L) : PtW L (nd k z [] [] [] []) [] :=
  ⟨1, 2, ⟨by omega, .inr (.inl ⟨k, z, hk, rfl, rfl, Nat.le_refl _⟩)⟩, by omega⟩
theorem PtW.var {z : List UInt8} (h : 1 ≤ L) : PtW L (nd [118, 97, 114] 0 z [] [] []) [z] := ⟨1, 1, ⟨by omega, .inl ⟨z, rfl, rfl⟩⟩, by omega⟩
theorem PtW.two {k : List UInt8} {xa xb : List (List UInt8)} (hk : k = [112, 97, 105, 114] ∨ k = [99, 111, 110, 115]) (ha : PtW La a xa) (hb : PtW Lb b xb) (h : La + Lb + 1 ≤ L) : PtW L (nd k 0 [] [] [a, b] []) (xb ++ xa) := by
  obtain ⟨N, c, h1, h2⟩ := ha
  obtain ⟨K, e, k1, k2⟩ := hb
  exact ⟨max N K + 1, c + e + 1, ⟨by omega, .inr (.inr ⟨k, a, b, xa, c, xb, e, hk, rfl, h1.le (Nat.le_max_left N K), k1.le (Nat.le_max_right N K), rfl, Nat.le_refl _⟩)⟩, by omega⟩
end

/-- The names of a pattern, as the other twin finds them. -/
theorem nR_pt : ∀ (N : Nat) (q : Code) (xs : List (List UInt8)) (c : Nat), Pt N q xs c → ∀ (m : Nat) (inn out : List (List UInt8)) (ok : Bool), nR m q inn = some (out, ok) → ∀ y ∈ out, y ∈ inn ∨ y ∈ xs
  | 0, _, _, _, h => h.elim
  | N + 1, q, xs, c, ⟨_, h⟩ => by
    intro m inn out ok hn y hy
    cases m with
    | zero => cases hn
    | succ m =>
      rw [nR] at hn
      rcases h with ⟨x, rfl, rfl⟩ | ⟨k, z, hk, rfl, rfl, -⟩ | ⟨k, a, b, xa, ca, xb, cb, hk, rfl, h3, h4, rfl, -⟩
      · rw [kindOf_nd, if_pos rfl, nmOf_nd] at hn
        injection hn with hn
        injection hn with hn _
        subst hn
        simpa using hy
      · rw [kindOf_nd, subsOf_nd, if_neg (by rcases hk with rfl | rfl | rfl | rfl <;> decide)] at hn
        injection hn with hn
        injection hn with hn _
        subst hn
        exact .inl hy
      · rw [kindOf_nd, subsOf_nd, if_neg (by rcases hk with rfl | rfl <;> decide), nAll] at hn
        obtain ⟨⟨o1, b1⟩, hx, hn⟩ := bindS hn
        obtain ⟨⟨o2, b2⟩, hy2, hn⟩ := bindS hn
        injection hn with hn
        injection hn with hn _
        subst hn
        rw [nAll] at hy2
        obtain ⟨⟨o3, b3⟩, hz, hy2⟩ := bindS hy2
        rw [nAll] at hy2
        obtain ⟨⟨o4, b4⟩, hz2, hy2⟩ := bindS hy2
        injection hz2 with hz2
        injection hz2 with hz2 _
        injection hy2 with hy2
        injection hy2 with hy2 _
        subst hz2
        subst hy2
        rcases nR_pt N b xb cb h4 m o1 _ _ hz y hy with h | h
        · rcases nR_pt N a xa ca h3 m inn _ _ hx y h with h | h
          · exact .inl h
          · exact .inr (by simp [h])
        · exact .inr (by simp [h])
end Go.Proofs.YtnbhnjokpcdnnaaGreatDoor

namespace Go.Proofs.YtnbhnjokpcdnnaaGreatDoor

section
variable {ws : List RW}

/-- What a derived tree costs, if its names are in sight. -/
structure DvC (k i j : Nat) (t : Code) : Prop where
  lt : i < j
  exp : j - i ≤ 240 → k ≤ 6 → ∀ m nms ns, bR m t nms = some true → (∀ x ∈ nms, x ∈ ns) → CtW (j - i) ns t
  pat : k = 7 ∨ k = 8 → ∃ xs, PtW (j - i) t xs
  cls : j - i ≤ 240 → k = 9 → ∀ bs qs, t = nd [99, 108, 97, 117, 115, 101, 115] 0 [] [] bs qs → ∀ m n nms ns ok, bArms (bR m) n nms qs bs ok = some true → (∀ x ∈ nms, x ∈ ns) → CtAW (j - i) ns bs qs
  dfs : j - i ≤ 240 → k = 10 → ∀ ds, t = nd [100, 101, 102, 115] 0 [] [] ds [] → ∀ m nms ns, bAll (bR m) ds nms = some true → (∀ x ∈ nms, x ∈ ns) → CtGW (j - i) ns ds

theorem nd_subs {k nm ow k' nm' ow' : List UInt8} {z z' : Int} {a b a' b' : List Code} (h : nd k z nm ow a b = nd k' z' nm' ow' a' b') : a = a' ∧ b = b' := by
  have h1 := congrArg subsOf h
  have h2 := congrArg patsOf h
  rw [subsOf_nd, subsOf_nd] at h1
  rw [patsOf_nd, patsOf_nd] at h2
  exact ⟨h1, h2⟩

theorem bAll_cons {R : Code → List (List UInt8) → Option Bool} {a : Code} {l : List Code} {nms : List (List UInt8)} (h : bAll R (a :: l) nms = some true) : R a nms = some true ∧ bAll R l nms = some true := by
  rw [bAll] at h
  obtain ⟨x, hx, h⟩ := bindS h
  cases x with
  | true => exact ⟨hx, h⟩
  | false => cases h

theorem bAll_app {R : Code → List (List UInt8) → Option Bool} {nms : List (List UInt8)} : ∀ {l l' : List Code}, bAll R (l ++ l') nms = some true → bAll R l nms = some true ∧ bAll R l' nms = some true
  | [], _, h => ⟨rfl, h⟩
  | a :: l, l', h => by
    obtain ⟨h1, h2⟩ := bAll_cons h
    obtain ⟨h3, h4⟩ := bAll_app h2
    exact ⟨by rw [bAll, h1]; exact h3, h4⟩

theorem bR_pl {k : List UInt8} (hk : plainK k) {m : Nat} {z : Int} {subs : List Code} {nms : List (List UInt8)} (h : bR m (nd k z [] [] subs []) nms = some true) : ∃ m', bAll (bR m') subs nms = some true := by
  cases m with
  | zero => cases h
  | succ m => rw [bR_plain hk] at h; exact ⟨m, h⟩

theorem bR_two {k : List UInt8} (hk : plainK k) {m : Nat} {z : Int} {a b : Code} {nms : List (List UInt8)} (h : bR m (nd k z [] [] [a, b] []) nms = some true) : ∃ m', bR m' a nms = some true ∧ bR m' b nms = some true := by
  obtain ⟨m', h⟩ := bR_pl hk h
  obtain ⟨h1, h⟩ := bAll_cons h
  exact ⟨m', h1, (bAll_cons h).1⟩

theorem bR_let {k x : List UInt8} (hk : k = [108, 101, 116] ∨ k = [116, 114, 121]) {m : Nat} {z : Int} {a b : Code} {nms : List (List UInt8)} (h : bR m (nd k z x [] [a, b] []) nms = some true) : ∃ m', bR m' a nms = some true ∧ bR m' b (nms ++ [x]) = some true := by
  cases m with
  | zero => cases h
  | succ m =>
    rw [bR, kindOf_nd, subsOf_nd, nmOf_nd, if_neg (by rcases hk with rfl | rfl <;> decide), if_neg (by rcases hk with rfl | rfl <;> decide), if_pos hk] at h
    simp only [List.getElem?_cons_zero, List.getElem?_cons_succ, Option.bind_some] at h
    obtain ⟨c, hc, h⟩ := bindS h
    obtain ⟨d, hd, h⟩ := bindS h
    have h : (c && d) = true := Option.some.inj h
    rw [Bool.and_eq_true] at h
    obtain ⟨rfl, rfl⟩ := h
    exact ⟨m, hc, hd⟩

theorem bR_fn {k x o : List UInt8} (hk : k = [102, 110] ∨ k = [100, 101, 102]) {m : Nat} {z : Int} {b : Code} {nms : List (List UInt8)} (h : bR m (nd k z x o [b] []) nms = some true) : ∃ m', bR m' b (nms ++ [x]) = some true := by
  cases m with
  | zero => cases h
  | succ m =>
    rw [bR, kindOf_nd, subsOf_nd, nmOf_nd, if_neg (by rcases hk with rfl | rfl <;> decide), if_pos hk] at h
    obtain ⟨b', hb, h⟩ := bindS h
    have hb : b = b' := Option.some.inj hb
    subst hb
    exact ⟨m, h⟩

theorem arms_no {R : Code → List (List UInt8) → Option Bool} {n : Nat} {nms : List (List UInt8)} : ∀ {qs bs : List Code}, bArms R n nms qs bs false = some true → False
  | [], _, h => by rw [bArms] at h; cases h
  | _ :: _, [], h => by rw [bArms] at h; cases h
  | q :: qs, b :: bs, h => by
    rw [bArms] at h
    obtain ⟨x, hx, h⟩ := bindS h
    obtain ⟨y, hy, h⟩ := bindS h
    rw [Bool.false_and, Bool.false_and] at h
    exact arms_no h

theorem sub_snoc {nms ns : List (List UInt8)} {x : List UInt8} (h : ∀ y ∈ nms, y ∈ ns) : ∀ y ∈ nms ++ [x], y ∈ x :: ns := by
  intro y hy
  rcases List.mem_append.1 hy with hy | hy
  · exact List.mem_cons_of_mem _ (h y hy)
  · simp at hy; subst hy; exact List.mem_cons_self

theorem one_ct {i L m : Nat} {t : Code} {nms ns : List (List UInt8)} (h : one1 ws i t) (hb : bR m t nms = some true) (hs : ∀ x ∈ nms, x ∈ ns) (h0 : 1 ≤ L) (h' : L ≤ 240) : CtW L ns t := by
  unfold one1 at h
  split at h
  · subst h
    cases m with
    | zero => cases hb
    | succ m =>
      rw [bR, kindOf_nd, if_pos rfl, nmOf_nd] at hb
      injection hb with hb
      exact CtW.var (hs _ (by simpa using hb)) h0 h'
  split at h
  · subst h; exact CtW.leaf (.inl rfl) h0 h'
  split at h
  · subst h; exact CtW.leaf (.inr (.inr (.inl rfl))) h0 h'
  split at h
  · subst h; exact CtW.leaf (.inr (.inr (.inl rfl))) h0 h'
  split at h
  · subst h; exact CtW.leaf (.inr (.inr (.inr rfl))) h0 h'
  split at h
  · subst h; exact CtW.leaf (.inr (.inl rfl)) h0 h'
  · exact h.elim

theorem one_pt {i L : Nat} {t : Code} (h : one1 ws i t) (hr : ¬ ((wAt ws i).isName = false ∧ tx ws i = [114, 101, 97, 100])) (h0 : 1 ≤ L) : ∃ xs, PtW L t xs := by
  unfold one1 at h
  split at h
  · subst h; exact ⟨_, PtW.var h0⟩
  rename_i hn
  split at h
  · subst h; exact ⟨_, PtW.leaf (.inl rfl) h0⟩
  split at h
  · subst h; exact ⟨_, PtW.leaf (.inr (.inl rfl)) h0⟩
  split at h
  · subst h; exact ⟨_, PtW.leaf (.inr (.inl rfl)) h0⟩
  split at h
  · subst h; exact ⟨_, PtW.leaf (.inr (.inr (.inr rfl))) h0⟩
  split at h
  · rename_i h2
    exact absurd ⟨by simpa using hn, h2⟩ hr
  · exact h.elim

theorem ops_plain {k : List UInt8} (h : opsK k) : plainK k := by
  unfold plainK
  rcases h with rfl | rfl | rfl | rfl | rfl | rfl <;> decide

variable {R : Nat → Nat → Nat → Code → Prop}

theorem inf_ct (ih : ∀ k i j t, R k i j t → DvC k i j t) {i j l r a : Nat} {x y : List UInt8} {t : Code} (hl : l ≤ 6) (hr : r ≤ 6) (ha : a ≤ 6) (hx : x ≠ [58, 58] → opsK x) (hy : y ≠ [58, 58] → opsK y) (h : bInf ws R i j l r a x y t) (h' : j - i ≤ 240) {m : Nat} {nms ns : List (List UInt8)} (hb : bR m t nms = some true) (hs : ∀ x ∈ nms, x ∈ ns) : CtW (j - i) ns t := by
  rcases h with h | ⟨p, a', b', g1, g2, g3, g4, g5, rfl⟩
  · exact (ih _ _ _ _ h).exp h' ha _ _ _ hb hs
  · have h1 := ih _ _ _ _ g4
    have h2 := ih _ _ _ _ g5
    have l1 := h1.lt
    have l2 := h2.lt
    have hk : ∃ c, twK (opK ws p) c ∧ plainK (opK ws p) := by
      have htx : (tx ws p = [58, 58]) ∨ opsK (tx ws p) := by
        rcases g3 with g | g
        · rw [(wd_tx g).2.1]
          by_cases e : x = [58, 58]
          · exact .inl e
          · exact .inr (hx e)
        · rw [(wd_tx g).2.1]
          by_cases e : y = [58, 58]
          · exact .inl e
          · exact .inr (hy e)
      unfold opK
      by_cases e : tx ws p = [58, 58]
      · rw [if_pos e]
        exact ⟨1, .inl ⟨.inr rfl, rfl⟩, by unfold plainK; decide⟩
      · rw [if_neg e]
        have ho : opsK (tx ws p) := htx.resolve_left e
        exact ⟨3, .inr (.inr ⟨.inl ho, rfl⟩), ops_plain ho⟩
    obtain ⟨c, hk, hp⟩ := hk
    obtain ⟨m', b1, b2⟩ := bR_two hp hb
    exact CtW.two (h1.exp (by omega) hl _ _ _ b1 hs) (h2.exp (by omega) hr _ _ _ b2 hs) (by omega) (by omega) hk (by omega) (.inr (by omega)) h'

theorem dvc_bd (ih : ∀ k i j t, R k i j t → DvC k i j t) {k i j : Nat} {t : Code} (h : Bd ws R k i j t) : DvC k i j t := by
  obtain ⟨h0, h⟩ := h
  match k, h with
  | 0, h =>
    refine ⟨h0, fun hL _ m nms ns hb hs => ?_, fun h => by omega, fun _ h => by omega, fun _ h => by omega⟩
    replace h : bExp ws R i j t := h
    unfold bExp at h
    split at h
    · rcases h with ⟨-, p, ds, b, g1, g2, -, g3, g4, rfl⟩ | ⟨-, -, p, a, b, g1, g2, -, g3, g4, rfl⟩
      · have h1 := ih _ _ _ _ g3
        have h2 := ih _ _ _ _ g4
        have l1 := h1.lt
        have l2 := h2.lt
        cases m with
        | zero => cases hb
        | succ m =>
          rw [bR, kindOf_nd, subsOf_nd, if_neg (by decide), if_neg (by decide), if_neg (by decide), if_pos rfl, List.dropLast_concat] at hb
          split at hb
          · cases hb
          · obtain ⟨b1, b2⟩ := bAll_app hb
            have hsub : ∀ x ∈ nms ++ ds.map ownOf, x ∈ ds.map ownOf ++ ns := fun x hx => by
              rcases List.mem_append.1 hx with hx | hx
              · exact List.mem_append.2 (.inr (hs x hx))
              · exact List.mem_append.2 (.inl hx)
            exact CtW.rec_ (h1.dfs (by omega) rfl _ rfl _ _ _ b1 hsub) (h2.exp (by omega) (by omega) _ _ _ (bAll_cons b2).1 hsub) (by omega) (by omega) (by omega) hL
      · have h1 := ih _ _ _ _ g3
        have h2 := ih _ _ _ _ g4
        have l1 := h1.lt
        have l2 := h2.lt
        obtain ⟨m', b1, b2⟩ := bR_let (.inl rfl) hb
        exact CtW.let_ (h1.exp (by omega) (by omega) _ _ _ b1 hs) (h2.exp (by omega) (by omega) _ _ _ b2 (sub_snoc hs)) (by omega) (by omega) (by omega) hL
    split at h
    · obtain ⟨-, -, b, g, rfl⟩ := h
      have h1 := ih _ _ _ _ g
      have l1 := h1.lt
      obtain ⟨m', b1⟩ := bR_fn (.inl rfl) hb
      exact CtW.fn (h1.exp (by omega) (by omega) _ _ _ b1 (sub_snoc hs)) (by omega) (by omega) hL
    split at h
    · obtain ⟨p, q, a, b, d, g1, g2, -, g3, g4, g5, -, g6, g7, rfl⟩ := h
      have h1 := ih _ _ _ _ g3
      have h2 := ih _ _ _ _ g6
      have h3 := ih _ _ _ _ g7
      have l1 := h1.lt
      have l2 := h2.lt
      have l3 := h3.lt
      obtain ⟨m', hb⟩ := bR_pl (by unfold plainK; decide) hb
      obtain ⟨b1, hb⟩ := bAll_cons hb
      obtain ⟨b2, hb⟩ := bAll_cons hb
      obtain ⟨b3, -⟩ := bAll_cons hb
      exact CtW.if_ (h1.exp (by omega) (by omega) _ _ _ b1 hs) (h2.exp (by omega) (by omega) _ _ _ b2 hs) (h3.exp (by omega) (by omega) _ _ _ b3 hs) (by omega) (by omega) (by omega) (by omega) hL
    split at h
    · obtain ⟨-, p, a, bs, qs, g1, g2, -, g3, g4, rfl⟩ := h
      have h1 := ih _ _ _ _ g3
      have h2 := ih _ _ _ _ g4
      have l1 := h1.lt
      have l2 := h2.lt
      cases m with
      | zero => cases hb
      | succ m =>
        rw [bR, kindOf_nd, subsOf_nd, patsOf_nd, if_neg (by decide), if_neg (by decide), if_neg (by decide), if_neg (by decide), if_pos rfl] at hb
        obtain ⟨a', ha, hb⟩ := bindS hb
        obtain ⟨x, hx, hb⟩ := bindS hb
        have ha : a = a' := Option.some.inj ha
        subst ha
        have hx1 : x = true := by
          cases x with
          | true => rfl
          | false => exact (arms_no hb).elim
        subst hx1
        exact CtW.match_ (h1.exp (by omega) (by omega) _ _ _ hx hs) (h2.cls (by omega) rfl _ _ rfl _ _ _ _ _ hb hs) (by omega) (by omega) (by omega) hL
    split at h
    · obtain ⟨-, p, a, b, g1, g2, -, g3, -, -, g4, rfl⟩ := h
      have h1 := ih _ _ _ _ g3
      have h2 := ih _ _ _ _ g4
      have l1 := h1.lt
      have l2 := h2.lt
      obtain ⟨m', b1, b2⟩ := bR_let (.inr rfl) hb
      exact CtW.try_ (h1.exp (by omega) (by omega) _ _ _ b1 hs) (h2.exp (by omega) (by omega) _ _ _ b2 (sub_snoc hs)) (by omega) (by omega) (by omega) hL
    · exact (ih _ _ _ _ h).exp hL (by omega) _ _ _ hb hs
  | 1, h => exact ⟨h0, fun hL _ m nms ns hb hs => inf_ct ih (by omega) (by omega) (by omega) (fun _ => .inr (.inr (.inr (.inr (.inl rfl))))) (fun _ => .inr (.inr (.inr (.inr (.inr rfl))))) h hL hb hs, fun h => by omega, fun _ h => by omega, fun _ h => by omega⟩
  | 2, h => exact ⟨h0, fun hL _ m nms ns hb hs => inf_ct ih (by omega) (by omega) (by omega) (fun h => absurd rfl h) (fun h => absurd rfl h) h hL hb hs, fun h => by omega, fun _ h => by omega, fun _ h => by omega⟩
  | 3, h => exact ⟨h0, fun hL _ m nms ns hb hs => inf_ct ih (by omega) (by omega) (by omega) (fun _ => .inl rfl) (fun _ => .inr (.inl rfl)) h hL hb hs, fun h => by omega, fun _ h => by omega, fun _ h => by omega⟩
  | 4, h => exact ⟨h0, fun hL _ m nms ns hb hs => inf_ct ih (by omega) (by omega) (by omega) (fun _ => .inr (.inr (.inl rfl))) (fun _ => .inr (.inr (.inr (.inl rfl)))) h hL hb hs, fun h => by omega, fun _ h => by omega, fun _ h => by omega⟩
  | 5, h =>
    refine ⟨h0, fun hL _ m nms ns hb hs => ?_, fun h => by omega, fun _ h => by omega, fun _ h => by omega⟩
    replace h : bApp ws R i j t := h
    unfold bApp at h
    split at h
    · rename_i hpre
      obtain ⟨a, g, rfl⟩ := h
      have h1 := ih _ _ _ _ g
      have l1 := h1.lt
      have hk : onK (tx ws i) := by
        unfold isPre at hpre
        simp only [Bool.and_eq_true, Bool.or_eq_true, beq_iff_eq] at hpre
        rcases hpre.2 with (h | h) | h
        · exact .inl h
        · exact .inr (.inr h)
        · exact .inr (.inl h)
      obtain ⟨m', hb⟩ := bR_pl (by unfold plainK; rcases hk with h | h | h <;> rw [h] <;> decide) hb
      exact CtW.one (h1.exp (by omega) (by omega) _ _ _ (bAll_cons hb).1 hs) (by omega) hk (by omega) hL
    split at h
    · rcases h with ⟨p, a, b, g1, g2, g3, g4, rfl⟩ | h
      · have h1 := ih _ _ _ _ g3
        have h2 := ih _ _ _ _ g4
        have l1 := h1.lt
        have l2 := h2.lt
        obtain ⟨m', b1, b2⟩ := bR_two (by unfold plainK; decide) hb
        exact CtW.two (h2.exp (by omega) (by omega) _ _ _ b1 hs) (h1.exp (by omega) (by omega) _ _ _ b2 hs) (by omega) (by omega) (.inr (.inr ⟨.inr rfl, rfl⟩)) (by omega) (.inr (by omega)) hL
      · exact (ih _ _ _ _ h).exp hL (by omega) _ _ _ hb hs
    · rcases h with ⟨p, a, b, g1, g2, g3, g4, rfl⟩ | h
      · have h1 := ih _ _ _ _ g3
        have h2 := ih _ _ _ _ g4
        have l1 := h1.lt
        have l2 := h2.lt
        obtain ⟨m', b1, b2⟩ := bR_two (by unfold plainK; decide) hb
        exact CtW.two (h2.exp (by omega) (by omega) _ _ _ b1 hs) (h1.exp (by omega) (by omega) _ _ _ b2 hs) (by omega) (by omega) (.inr (.inl ⟨rfl, rfl⟩)) (by omega) (.inl rfl) hL
      · exact (ih _ _ _ _ h).exp hL (by omega) _ _ _ hb hs
  | 6, h =>
    refine ⟨h0, fun hL _ m nms ns hb hs => ?_, fun h => by omega, fun _ h => by omega, fun _ h => by omega⟩
    replace h : bAtom ws R i j t := h
    unfold bAtom at h
    split at h
    · exact one_ct h hb hs (by omega) hL
    · obtain ⟨-, -, h | ⟨p, a, b, g1, g2, -, g3, g4, rfl⟩⟩ := h
      · have h1 := ih _ _ _ _ h
        have l1 := h1.lt
        exact (h1.exp (by omega) (by omega) _ _ _ hb hs).up (by omega) hL
      · have h1 := ih _ _ _ _ g3
        have h2 := ih _ _ _ _ g4
        have l1 := h1.lt
        have l2 := h2.lt
        obtain ⟨m', b1, b2⟩ := bR_two (by unfold plainK; decide) hb
        exact CtW.two (h1.exp (by omega) (by omega) _ _ _ b1 hs) (h2.exp (by omega) (by omega) _ _ _ b2 hs) (by omega) (by omega) (.inl ⟨.inl rfl, rfl⟩) (by omega) (.inr (by omega)) hL
  | 7, h =>
    refine ⟨h0, fun _ h => by omega, fun _ => ?_, fun _ h => by omega, fun _ h => by omega⟩
    replace h : bInf ws R i j 8 7 8 [58, 58] [58, 58] t := h
    rcases h with h | ⟨p, a', b', g1, g2, g3, g4, g5, rfl⟩
    · exact (ih _ _ _ _ h).pat (.inr rfl)
    · have h1 := ih _ _ _ _ g4
      have h2 := ih _ _ _ _ g5
      have l1 := h1.lt
      have l2 := h2.lt
      obtain ⟨xa, ha⟩ := h1.pat (.inr rfl)
      obtain ⟨xb, hb⟩ := h2.pat (.inl rfl)
      have hk : opK ws p = [99, 111, 110, 115] := by
        unfold opK
        rw [if_pos (by rcases g3 with g | g <;> exact (wd_tx g).2.1)]
      rw [hk]
      exact ⟨_, PtW.two (.inr rfl) ha hb (by omega)⟩
  | 8, h =>
    refine ⟨h0, fun _ h => by omega, fun _ => ?_, fun _ h => by omega, fun _ h => by omega⟩
    replace h : bSimple ws R i j t := h
    unfold bSimple at h
    split at h
    · obtain ⟨-, -, h | ⟨p, a, b, g1, g2, -, g3, g4, rfl⟩⟩ := h
      · have h1 := ih _ _ _ _ h
        have l1 := h1.lt
        obtain ⟨xs, N, c, h3, h4⟩ := h1.pat (.inl rfl)
        exact ⟨xs, N, c, h3, by omega⟩
      · have h1 := ih _ _ _ _ g3
        have h2 := ih _ _ _ _ g4
        have l1 := h1.lt
        have l2 := h2.lt
        obtain ⟨xa, ha⟩ := h1.pat (.inl rfl)
        obtain ⟨xb, hb⟩ := h2.pat (.inl rfl)
        exact ⟨_, PtW.two (.inl rfl) ha hb (by omega)⟩
    split at h
    · subst h
      exact ⟨_, PtW.leaf (.inr (.inr (.inl rfl))) (by omega)⟩
    · exact one_pt h.1 h.2 (by omega)
  | 9, h =>
    refine ⟨h0, fun _ h => by omega, fun h => by omega, fun hL _ bs' qs' ht m n nms ns ok hb hs => ?_, fun _ h => by omega⟩
    obtain ⟨p, q, g1, g2, -, g3, e, b, g4, g5, g6, ⟨g7, rfl⟩ | ⟨g7, -, bs, qs, g8, rfl⟩⟩ := h
    · have h1 := ih _ _ _ _ g3
      have h2 := ih _ _ _ _ g6
      have l1 := h1.lt
      have l2 := h2.lt
      obtain ⟨rfl, rfl⟩ := nd_subs ht
      obtain ⟨xs, hx⟩ := h1.pat (.inl rfl)
      rw [bArms] at hb
      obtain ⟨⟨o, ok1⟩, hn, hb⟩ := bindS hb
      obtain ⟨y, hy, hb⟩ := bindS hb
      rw [bArms] at hb
      simp only [Option.some.injEq, Bool.and_eq_true] at hb
      obtain ⟨-, rfl⟩ := hb
      refine CtAW.one hx (h2.exp (by omega) (by omega) _ _ _ hy fun z hz => ?_) (by omega) (by omega) hL
      obtain ⟨N, c, hp, -⟩ := hx
      rcases List.mem_append.1 hz with hz | hz
      · exact List.mem_append.2 (.inr (hs z hz))
      · rcases nR_pt N q xs c hp _ _ _ _ hn z hz with h | h
        · cases h
        · exact List.mem_append.2 (.inl h)
    · have h1 := ih _ _ _ _ g3
      have h2 := ih _ _ _ _ g6
      have h3 := ih _ _ _ _ g8
      have l1 := h1.lt
      have l2 := h2.lt
      have l3 := h3.lt
      obtain ⟨rfl, rfl⟩ := nd_subs ht
      obtain ⟨xs, hx⟩ := h1.pat (.inl rfl)
      rw [bArms] at hb
      obtain ⟨⟨o, ok1⟩, hn, hb⟩ := bindS hb
      obtain ⟨y, hy, hb⟩ := bindS hb
      have hy1 : y = true := by
        cases y with
        | true => rfl
        | false => exact (arms_no (by rw [Bool.and_false] at hb; exact hb)).elim
      subst hy1
      refine CtAW.more hx (h2.exp (by omega) (by omega) _ _ _ hy fun z hz => ?_) (h3.cls (by omega) rfl _ _ rfl _ _ _ _ _ hb hs) (by omega) (by omega) (by omega) hL
      obtain ⟨N, c, hp, -⟩ := hx
      rcases List.mem_append.1 hz with hz | hz
      · exact List.mem_append.2 (.inr (hs z hz))
      · rcases nR_pt N q xs c hp _ _ _ _ hn z hz with h | h
        · cases h
        · exact List.mem_append.2 (.inl h)
  | 10, h =>
    refine ⟨h0, fun _ h => by omega, fun h => by omega, fun _ h => by omega, fun hL _ ds' ht m nms ns hb hs => ?_⟩
    obtain ⟨-, -, -, p, b, g1, g2, g3, ⟨g4, rfl⟩ | ⟨g4, -, ds, g5, rfl⟩⟩ := h
    · have h1 := ih _ _ _ _ g3
      have l1 := h1.lt
      obtain ⟨rfl, -⟩ := nd_subs ht
      obtain ⟨b1, -⟩ := bAll_cons hb
      obtain ⟨m', b2⟩ := bR_fn (.inr rfl) b1
      exact CtGW.one (h1.exp (by omega) (by omega) _ _ _ b2 (sub_snoc hs)) (by omega) (by omega) hL
    · have h1 := ih _ _ _ _ g3
      have h3 := ih _ _ _ _ g5
      have l1 := h1.lt
      have l3 := h3.lt
      obtain ⟨rfl, -⟩ := nd_subs ht
      obtain ⟨b1, b3⟩ := bAll_cons hb
      obtain ⟨m', b2⟩ := bR_fn (.inr rfl) b1
      exact CtGW.more (h1.exp (by omega) (by omega) _ _ _ b2 (sub_snoc hs)) (h3.dfs (by omega) rfl _ rfl _ _ _ b3 hs) (by omega) (by omega) (by omega) hL
  | k + 11, h => exact h.elim
end

theorem dvc_der {ws : List RW} : ∀ (n k i j : Nat) (t : Code), der ws n k i j t → DvC k i j t
  | 0, _, _, _, _, h => h.elim
  | n + 1, _, _, _, _, h => dvc_bd (dvc_der n) h

/-- A text's tree makes fewer types than 2^62. -/
theorem ct_top {ws : List RW} {T : Code} (hw : ws.length ≤ 240) (h : Dv ws 0 0 ws.length T) {m : Nat} (hb : bR m T [] = some true) : ∃ N u v, Cst N [] T u v ∧ v ≤ 4000000000000000000 := by
  obtain ⟨n, h⟩ := h
  have h1 := dvc_der n _ _ _ _ h
  obtain ⟨N, u, v, c, k1, -, -, k4⟩ := h1.exp (by omega) (by omega) m [] [] hb (fun _ h => h)
  refine ⟨N, u, v, k1, ?_⟩
  have q1 := tu_le (c := c) (n := ws.length - 0) (by omega)
  have q2 := (tq_up (n := ws.length - 0) (k := 240) (by omega) (by omega)).1
  have q3 := tq_top
  omega
end Go.Proofs.YtnbhnjokpcdnnaaGreatDoor
